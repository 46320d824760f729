/- Plain mathematics of what is forced: clauses as words, what is closed and open, single clauses, forcing; no condition. -/
import Derived.Test.YtfhmdpbnnieohaaDoorJXFm
import Derived.Test.YtfhmdpbnnieohaaDoorJPc
import Derived.Deep.RegionWith
import Derived.Test.YtfhmdpbnnieohaaDoorJPn
namespace Go.Proofs.YtfhmdpbnnieohaaDoor.wm
open Go.RowKit
open lits (okB okB_iff)
open bset (placeN placeN_le placeN_inj setOf setOf_lt withN withN_lt withN_bit)
open srt (woN woN_lt woN_bit fstI oppN oppN_bit oppN_lt swp andN andN_bit andN_lt or_lt hi_bit)
open ok (cnfB litIn)
open wo (Made)
open sl (grown_trans)
set_option linter.unusedVariables false
theorem litI_spec {t : Nat} (h : t < 48) : okB (srt.litI t) = true ∧ placeN (srt.litI t) = t := by
 obtain ⟨k, hk | hk⟩ : ∃ k, t = 2 * k ∨ t = 2 * k + 1 := ⟨t / 2, by omega⟩
 ·subst hk
  rw [srt.litI_even]
  exact srt.place_pos k (by omega)
 ·subst hk
  rw [srt.litI_odd]
  exact srt.place_neg k (by omega)
theorem fst_spec {R : Nat} (h0 : 0 < R) (h : R < 2 ^ 48) : okB (fstI R) = true ∧ R.testBit (placeN (fstI R)) = true := by
 obtain ⟨t, m, et, ht, es⟩ := srt.low h0 h
 unfold srt.fstI
 rw [← et]
 have k := litI_spec ht
 refine ⟨k.1, ?_⟩
 rw [k.2, es, srt.low_bit, if_pos (by omega), decide_eq_true rfl]
def clsd (S T : Nat) : Bool := (S &&& T) != 0
def opn (S T : Nat) : Nat := andN S (oppN T)
def sumR : Nat → (Nat → Nat) → Nat
 | 0, _ => 0
 | n + 1, f => sumR n f + f n
theorem sumR_le {n : Nat} {f g : Nat → Nat} (h : ∀ p, p < n → f p ≤ g p) : sumR n f ≤ sumR n g := by
 induction n with
 | zero => exact Nat.le_refl _
 | succ n ih => exact Nat.add_le_add (ih fun p hp => h p (by omega)) (h n (by omega))
theorem sumR_one {n q d : Nat} {f g : Nat → Nat} (hq : q < n) (h : ∀ p, p < n → p ≠ q → f p ≤ g p) (hd : f q ≤ g q + d) : sumR n f ≤ sumR n g + d := by
 induction n with
 | zero => omega
 | succ n ih =>
  show sumR n f + f n ≤ sumR n g + g n + d
  by_cases e : q = n
  ·subst e
   have := sumR_le (n := q) (f := f) (g := g) (fun p hp => h p (by omega) (by omega))
   omega
  ·have := ih (by omega) (fun p hp => h p (by omega))
   have := h n (by omega) (fun e' => e e'.symm)
   omega
theorem sumR_get {n q : Nat} {f : Nat → Nat} (hq : q < n) : f q ≤ sumR n f := by
 induction n with
 | zero => omega
 | succ n ih =>
  show f q ≤ sumR n f + f n
  by_cases e : q = n
  ·subst e
   omega
  ·have := ih (by omega)
   omega
theorem sumR_cut {n q d : Nat} {f g : Nat → Nat} (hq : q < n) (h : ∀ p, p < n → p ≠ q → f p ≤ g p) (hd : f q + d ≤ g q) : sumR n f + d ≤ sumR n g := by
 induction n with
 | zero => omega
 | succ n ih =>
  show sumR n f + f n + d ≤ sumR n g + g n
  by_cases e : q = n
  ·subst e
   have := sumR_le (n := q) (f := f) (g := g) (fun p hp => h p (by omega) (by omega))
   omega
  ·have := ih (by omega) (fun p hp => h p (by omega))
   have := h n (by omega) (fun e' => e e'.symm)
   omega
theorem swp_place {x : Int} (h : okB x = true) : swp (placeN x) = placeN (-x) := by
 have a := okB_iff.1 h
 unfold srt.swp bset.placeN lits.placeI
 split <;> split <;> split <;> omega
theorem opn_bit (S T : Nat) (b : Nat) (hS : S < 2 ^ 48) : (opn S T).testBit b = (S.testBit b && !T.testBit (swp b)) := by
 unfold opn
 rw [andN_bit _ _ _ hS (oppN_lt T), oppN_bit]
 by_cases hb : b < 48
 ·rw [decide_eq_true hb, Bool.true_and]
 ·rw [hi_bit hS (by omega), Bool.false_and, Bool.false_and]
theorem clsd_no {S T : Nat} : clsd S T = false ↔ ∀ b, ¬ (S.testBit b = true ∧ T.testBit b = true) := by
 unfold clsd
 constructor
 ·intro h b hb
  have h0 : S &&& T = 0 := by simpa using h
  have := congrArg (fun q => q.testBit b) h0
  simp [Nat.testBit_and, hb.1, hb.2] at this
 ·intro h
  have : S &&& T = 0 := by
   apply Nat.eq_of_testBit_eq
   intro b
   rw [Nat.testBit_and, Nat.zero_testBit]
   cases h1 : S.testBit b
   ·rfl
   ·cases h2 : T.testBit b
    ·rfl
    ·exact absurd ⟨h1, h2⟩ (h b)
  rw [this]
  rfl
theorem zero_of {O : Nat} (h : ∀ b, O.testBit b = false) : O = 0 := by
 apply Nat.eq_of_testBit_eq
 intro b
 rw [h b, Nat.zero_testBit]
def clauseN (S T : Nat) : Int := if clsd S T then 0 else if opn S T = 0 then -100 else if woN (opn S T) (fstI (opn S T)) = 0 then fstI (opn S T) else 0
def firstN (l : List Int) : Int := (l.find? (fun x => x != 0)).getD 0
def unitN (Ss : List Nat) (T : Nat) : Int × Bool := if (Ss.map (clauseN · T)).any (· == -100) then (0, false) else (firstN (Ss.map (clauseN · T)), true)
theorem clauseN_closed {S T : Nat} (h : clsd S T = true) : clauseN S T = 0 := by unfold clauseN; rw [if_pos h]
theorem clauseN_empty {S T : Nat} (h : clsd S T = false) (ho : opn S T = 0) : clauseN S T = -100 := by unfold clauseN; rw [if_neg (by rw [h]; simp), if_pos ho]
theorem clauseN_one {S T : Nat} (h : clsd S T = false) (ho : opn S T ≠ 0) (hr : woN (opn S T) (fstI (opn S T)) = 0) : clauseN S T = fstI (opn S T) := by unfold clauseN; rw [if_neg (by rw [h]; simp), if_neg ho, if_pos hr]
theorem clauseN_two {S T : Nat} (h : clsd S T = false) (ho : opn S T ≠ 0) (hr : woN (opn S T) (fstI (opn S T)) ≠ 0) : clauseN S T = 0 := by unfold clauseN; rw [if_neg (by rw [h]; simp), if_neg ho, if_neg hr]
theorem one_iff {O : Nat} (hO : O < 2 ^ 48) (h0 : O ≠ 0) : woN O (fstI O) = 0 ↔ ∀ a b, O.testBit a = true → O.testBit b = true → a = b := by
 have fs := fst_spec (Nat.pos_of_ne_zero h0) hO
 constructor
 ·intro h a b ha hb
  have k : ∀ c, O.testBit c = true → c = placeN (fstI O) := by
   intro c hc
   have := congrArg (fun q => q.testBit c) h
   simp only [woN_bit _ _ _ hO fs.1, Nat.zero_testBit, hc, Bool.true_and] at this
   have t : decide (placeN (fstI O) = c) = true := by
    cases hd : decide (placeN (fstI O) = c)
    ·rw [hd] at this
     cases this
    ·rfl
   exact (of_decide_eq_true t).symm
  rw [k a ha, k b hb]
 ·intro h
  apply zero_of
  intro b
  rw [woN_bit _ _ _ hO fs.1]
  cases hb : O.testBit b
  ·rfl
  ·rw [h _ _ fs.2 hb, decide_eq_true rfl]
   rfl
theorem ok_ne {x : Int} (h : okB x = true) : x ≠ 0 ∧ x ≠ -100 := by
 have := okB_iff.1 h
 omega
theorem firstN_at {l : List Int} {i : Nat} (hi : i < l.length) (hx : l.getD i 0 ≠ 0) (hb : ∀ j, j < i → l.getD j 0 = 0) : firstN l = l.getD i 0 := by
 induction l generalizing i with
 | nil => simp at hi
 | cons x l ih =>
  unfold firstN
  cases i with
  | zero =>
   have hx' : x ≠ 0 := hx
   rw [List.find?_cons_of_pos (by simpa using hx')]
   rfl
  | succ i =>
   have hx0 : x = 0 := hb 0 (by omega)
   rw [List.find?_cons_of_neg (by simp [hx0])]
   exact ih (by simpa using hi) hx (fun j hj => hb (j + 1) (by omega))
theorem firstN_none {l : List Int} (h : ∀ x ∈ l, x = 0) : firstN l = 0 := by
 unfold firstN
 rw [List.find?_eq_none.2 (fun x hx => by simp [h x hx])]
 rfl
theorem map_at {Ss : List Nat} {T i : Nat} (hi : i < Ss.length) : (Ss.map (clauseN · T)).getD i 0 = clauseN (Ss.getD i 0) T := by simp [hi]
def frc (Ss : List Nat) : Nat → Nat → List Int → List Int × Bool
 | 0, _, p => (p, true)
 | n + 1, T, p => if (unitN Ss T).2 = false then (p, false) else if (unitN Ss T).1 = 0 then (p, true) else frc Ss n (withN T (unitN Ss T).1) (p ++ [(unitN Ss T).1])
def pc (T : Nat) : Nat := sumR 48 (fun b => if T.testBit b then 1 else 0)
theorem pc_le (T : Nat) : pc T ≤ 48 := by
 have : ∀ n, sumR n (fun b => if T.testBit b then 1 else 0) ≤ n := by
  intro n
  induction n with
  | zero => exact Nat.le_refl _
  | succ n ih =>
   show sumR n _ + (if T.testBit n then 1 else 0) ≤ n + 1
   split <;> omega
 exact this 48
theorem pc_with {T : Nat} {x : Int} (hx : okB x = true) (h : T.testBit (placeN x) = false) : pc T + 1 ≤ pc (withN T x) := by
 have hp := placeN_le hx
 exact sumR_cut (n := 48) (q := placeN x) (by omega) (fun p hp' hne => by
  rw [withN_bit, decide_eq_false (fun e => hne e.symm), Bool.or_false]
  exact Nat.le_refl _) (by
  rw [withN_bit, decide_eq_true rfl, Bool.or_true, h]
  decide)
theorem unit_new {Ss : List Nat} {T : Nat} (hS : ∀ S ∈ Ss, S < 2 ^ 48) (h1 : (unitN Ss T).2 = true) (h0 : (unitN Ss T).1 ≠ 0) : okB (unitN Ss T).1 = true ∧ T.testBit (placeN (unitN Ss T).1) = false ∧ T.testBit (placeN (-(unitN Ss T).1)) = false := by
 unfold unitN at h1 h0 ⊢
 split at h1
 ·cases h1
 ·rename_i hn
  rw [if_neg hn] at h0 ⊢
  unfold firstN at h0 ⊢
  cases hf : (Ss.map (clauseN · T)).find? (fun x => x != 0) with
  | none =>
   rw [hf] at h0
   exact absurd rfl h0
  | some y =>
   have hm := List.mem_of_find?_eq_some hf
   have hy : y ≠ 0 := by simpa using List.find?_some hf
   rw [List.mem_map] at hm
   obtain ⟨S, hSm, rfl⟩ := hm
   have hwd := hS S hSm
   have h100 : clauseN S T ≠ -100 := fun e => hn (by
    rw [List.any_eq_true]
    exact ⟨clauseN S T, List.mem_map.2 ⟨S, hSm, rfl⟩, by rw [e]; rfl⟩)
   show okB (clauseN S T) = true ∧ T.testBit (placeN (clauseN S T)) = false ∧ T.testBit (placeN (-(clauseN S T))) = false
   cases hc : clsd S T
   ·by_cases ho : opn S T = 0
    ·exact absurd (clauseN_empty hc ho) h100
    ·by_cases hr : woN (opn S T) (fstI (opn S T)) = 0
     ·have e := clauseN_one hc ho hr
      have fs := fst_spec (Nat.pos_of_ne_zero ho) (andN_lt _ _ hwd)
      rw [e]
      have fb := fs.2
      rw [opn_bit _ _ _ hwd, Bool.and_eq_true, Bool.not_eq_true', swp_place fs.1] at fb
      refine ⟨fs.1, ?_, fb.2⟩
      cases hq : T.testBit (placeN (fstI (opn S T)))
      ·rfl
      ·exact absurd ⟨fb.1, hq⟩ (clsd_no.1 hc _)
     ·exact absurd (clauseN_two hc ho hr) hy
   ·exact absurd (clauseN_closed hc) hy
theorem frc_stop {Ss : List Nat} {n T : Nat} {p : List Int} (h : (unitN Ss T).2 = false) : frc Ss (n + 1) T p = (p, false) := by
 show (if (unitN Ss T).2 = false then (p, false) else _) = _
 rw [if_pos h]
theorem frc_end {Ss : List Nat} {n T : Nat} {p : List Int} (h : (unitN Ss T).2 = true) (h0 : (unitN Ss T).1 = 0) : frc Ss (n + 1) T p = (p, true) := by
 show (if (unitN Ss T).2 = false then (p, false) else if (unitN Ss T).1 = 0 then (p, true) else _) = _
 rw [if_neg (by rw [h]; simp), if_pos h0]
theorem frc_more {Ss : List Nat} {n T : Nat} {p : List Int} (h : (unitN Ss T).2 = true) (h0 : (unitN Ss T).1 ≠ 0) : frc Ss (n + 1) T p = frc Ss n (withN T (unitN Ss T).1) (p ++ [(unitN Ss T).1]) := by
 show (if (unitN Ss T).2 = false then (p, false) else if (unitN Ss T).1 = 0 then (p, true) else _) = _
 rw [if_neg (by rw [h]; simp), if_neg h0]
def frt (Ss : List Nat) : Nat → Nat → Nat
 | 0, T => T
 | n + 1, T => if (unitN Ss T).2 = false then T else if (unitN Ss T).1 = 0 then T else frt Ss n (withN T (unitN Ss T).1)
theorem frt_stop {Ss : List Nat} {n T : Nat} (h : (unitN Ss T).2 = false) : frt Ss (n + 1) T = T := by
 show (if (unitN Ss T).2 = false then T else _) = _
 rw [if_pos h]
theorem frt_end {Ss : List Nat} {n T : Nat} (h0 : (unitN Ss T).1 = 0) : frt Ss (n + 1) T = T := by
 show (if (unitN Ss T).2 = false then T else if (unitN Ss T).1 = 0 then T else _) = _
 rw [if_pos h0]
 exact ite_self _
theorem frt_more {Ss : List Nat} {n T : Nat} (h : (unitN Ss T).2 = true) (h0 : (unitN Ss T).1 ≠ 0) : frt Ss (n + 1) T = frt Ss n (withN T (unitN Ss T).1) := by
 show (if (unitN Ss T).2 = false then T else if (unitN Ss T).1 = 0 then T else _) = _
 rw [if_neg (by rw [h]; simp), if_neg h0]
def okU (n : Int) (LL : List (List Int)) (L : List Int) : Bool := cnfB n LL && L.all (litIn n)
def unitB (n : Int) (LL : List (List Int)) (L : List Int) : Int × Bool := if okU n LL L then unitN (LL.map setOf) (setOf L) else (0, false)
theorem opp_ok {x : Int} (h : okB x = true) : okB (-x) = true := by
 have := okB_iff.1 h
 exact lits.okB_yes (by omega)
theorem take_snoc (C : List Int) (t : Nat) (h : t < C.length) : C.take (t + 1) = C.take t ++ [C.getD t 0] := by
 rw [List.take_succ_eq_append_getElem h]
 simp [h]
def slLen : Value → Nat
 | .slice _ n _ => n
 | _ => 0
theorem set_bd (LL : List (List Int)) : ∀ S ∈ LL.map setOf, S < 2 ^ 48 := fun S hS => by
 rw [List.mem_map] at hS
 obtain ⟨M, _, rfl⟩ := hS
 exact setOf_lt M
end Go.Proofs.YtfhmdpbnnieohaaDoor.wm
