/- Plain mathematics of FnRefute and FnCheck: forcing with more clauses fails where it failed with fewer; the clauses of a walk follow at once, one behind the other; what checks cannot be true. No condition. -/
import Derived.Test.YtfhmdpbnnieohaaDoorJXXt
import Derived.Test.YtfhmdpbnnieohaaDoorJXMq
namespace Go.Proofs.YtfhmdpbnnieohaaDoor.xs
open Go.RowKit
open lits (okB okB_iff)
open bset (placeN placeN_le placeN_inj setOf setOf_lt setOf_has setOf_snoc withN withN_bit)
open srt (fstI oppN oppN_bit oppN_lt swp hi_bit woN)
open cls (hasB)
open ok (cnfB clB litIn)
open fm (freeL)
open wm (frc unitN unit_new failB pc pc_le clauseN clauseN_closed clauseN_empty clauseN_one clauseN_two clsd clsd_no opn opn_bit one_iff firstN badN swp_place opp_ok set_bd fst_spec ok_ne frc_stop frc_end frc_more)
open sp (negL)
open xw (full full_stop full_end full_more free_ok free_new free_pc frc_snd set_neg fail_set)
open xt (bad_cons bad_app)
set_option linter.unusedVariables false
def Cons (T : Nat) : Prop := ∀ b, T.testBit b = true → T.testBit (swp b) = false
def Sub (T U : Nat) : Prop := ∀ b, T.testBit b = true → U.testBit b = true
theorem swp_swp (b : Nat) : swp (swp b) = b := by unfold srt.swp; split <;> split <;> omega
theorem unit_quiet {Ss : List Nat} {T : Nat} (h : unitN Ss T = (0, true)) (hS : ∀ S ∈ Ss, S < 2 ^ 48) : ∀ S ∈ Ss, clauseN S T = 0 := by
 intro S hm
 unfold wm.unitN at h
 split at h
 ·cases h
 ·rename_i hn
  have h0 : firstN (Ss.map (clauseN · T)) = 0 := congrArg Prod.fst h
  by_cases hc : clauseN S T = 0
  ·exact hc
  ·exfalso
   unfold wm.firstN at h0
   cases hf : (Ss.map (clauseN · T)).find? (fun x => x != 0) with
   | none =>
    have := List.find?_eq_none.1 hf (clauseN S T) (List.mem_map.2 ⟨S, hm, rfl⟩)
    simp [hc] at this
   | some y =>
    rw [hf] at h0
    have := List.find?_some hf
    have e : y = 0 := h0
    rw [e] at this
    simp at this
theorem quiet_one {S T : Nat} {y : Nat} (hS : S < 2 ^ 48) (hc : clauseN S T = 0) (ho : ∀ b, (opn S T).testBit b = true → b = y) : ∃ b, S.testBit b = true ∧ T.testBit b = true := by
 cases h : clsd S T
 ·exfalso
  by_cases h0 : opn S T = 0
  ·rw [clauseN_empty h h0] at hc
   cases hc
  ·by_cases hr : woN (opn S T) (fstI (opn S T)) = 0
   ·have hlt : opn S T < 2 ^ 48 := srt.andN_lt _ _ hS
    rw [clauseN_one h h0 hr] at hc
    exact (ok_ne (fst_spec (Nat.pos_of_ne_zero h0) hlt).1).1 hc
   ·have hlt : opn S T < 2 ^ 48 := srt.andN_lt _ _ hS
    exact hr ((one_iff hlt h0).2 fun a b ha hb => (ho a ha).trans (ho b hb).symm)
 ·apply Classical.byContradiction
  intro hn
  have : clsd S T = false := clsd_no.2 fun b hb => hn ⟨b, hb.1, hb.2⟩
  rw [this] at h
  cases h
theorem quiet_in {S T y : Nat} (hS : S < 2 ^ 48) (hT : Cons T) (hc : clauseN S T = 0) (ho : ∀ b, S.testBit b = true → b ≠ y → T.testBit (swp b) = true) : T.testBit y = true ∧ S.testBit y = true := by
 obtain ⟨b, h1, h2⟩ := quiet_one (y := y) hS hc (fun b hb => by
  rw [opn_bit _ _ _ hS, Bool.and_eq_true, Bool.not_eq_true'] at hb
  apply Classical.byContradiction
  intro hn
  rw [ho b hb.1 hn] at hb
  cases hb.2)
 by_cases e : b = y
 ·subst e
  exact ⟨h2, h1⟩
 ·have := hT b h2
  rw [ho b h1 e] at this
  cases this
theorem cons_with {T : Nat} {x : Int} (h : Cons T) (hx : okB x = true) (hn : T.testBit (placeN (-x)) = false) : Cons (withN T x) := by
 intro b hb
 rw [withN_bit, Bool.or_eq_true, decide_eq_true_iff] at hb
 rw [withN_bit, Bool.or_eq_false_iff, decide_eq_false_iff_not]
 rcases hb with q | q
 ·refine ⟨h b q, fun e => ?_⟩
  have e2 : b = placeN (-x) := by rw [← swp_place hx, e, swp_swp]
  rw [e2, hn] at q
  cases q
 ·subst q
  refine ⟨by rw [swp_place hx]; exact hn, fun e => ?_⟩
  unfold srt.swp at e
  split at e <;> omega
theorem frc_cons {Ss : List Nat} (hS : ∀ S ∈ Ss, S < 2 ^ 48) : ∀ (n : Nat) (p : List Int), Cons (setOf p) → Cons (setOf (frc Ss n (setOf p) p).1) := by
 intro n
 induction n with
 | zero => exact fun p h => h
 | succ n ih =>
  intro p h
  cases hk : (unitN Ss (setOf p)).2
  ·rw [frc_stop hk]
   exact h
  ·by_cases h0 : (unitN Ss (setOf p)).1 = 0
   ·rw [frc_end hk h0]
    exact h
   ·have un := unit_new hS hk h0
    have e : withN (setOf p) (unitN Ss (setOf p)).1 = setOf (p ++ [(unitN Ss (setOf p)).1]) := by rw [setOf_snoc, if_pos un.1]
    rw [frc_more hk h0, e]
    refine ih _ ?_
    rw [← e]
    exact cons_with h un.1 un.2.2
theorem unit_why {Ss : List Nat} {T : Nat} (hS : ∀ S ∈ Ss, S < 2 ^ 48) : ((unitN Ss T).2 = false → ∃ S ∈ Ss, ∀ b, S.testBit b = true → T.testBit (swp b) = true) ∧
  ((unitN Ss T).2 = true → (unitN Ss T).1 ≠ 0 → ∃ S ∈ Ss, ∀ b, S.testBit b = true → b ≠ placeN (unitN Ss T).1 → T.testBit (swp b) = true) := by
 have opn_all : ∀ S y, S < 2 ^ 48 → (∀ b, (opn S T).testBit b = true → b = y) → ∀ b, S.testBit b = true → b ≠ y → T.testBit (swp b) = true := by
  intro S y hs ho b hb hne
  cases hq : T.testBit (swp b)
  ·exfalso
   exact hne (ho b (by rw [opn_bit _ _ _ hs, hb, hq]; rfl))
  ·rfl
 constructor
 ·intro h
  unfold wm.unitN at h
  split at h
  ·rename_i hn
   rw [List.any_eq_true] at hn
   obtain ⟨y, hy, e⟩ := hn
   rw [List.mem_map] at hy
   obtain ⟨S, hSm, rfl⟩ := hy
   have e' : clauseN S T = -100 := by simpa using e
   have hs := hS S hSm
   refine ⟨S, hSm, ?_⟩
   cases hc : clsd S T
   ·by_cases ho : opn S T = 0
    ·intro b hb
     cases hq : T.testBit (swp b)
     ·exfalso
      have : (opn S T).testBit b = true := by rw [opn_bit _ _ _ hs, hb, hq]; rfl
      rw [ho, Nat.zero_testBit] at this
      cases this
     ·rfl
    ·exfalso
     by_cases hr : woN (opn S T) (fstI (opn S T)) = 0
     ·rw [clauseN_one hc ho hr] at e'
      exact (ok_ne (fst_spec (Nat.pos_of_ne_zero ho) (srt.andN_lt _ _ hs)).1).2 e'
     ·rw [clauseN_two hc ho hr] at e'
      cases e'
   ·rw [clauseN_closed hc] at e'
    cases e'
  ·cases h
 ·intro h h0
  unfold wm.unitN at h h0 ⊢
  split at h
  ·cases h
  ·rename_i hn
   rw [if_neg hn] at h0 ⊢
   unfold wm.firstN at h0 ⊢
   cases hf : (Ss.map (clauseN · T)).find? (fun x => x != 0) with
   | none =>
    rw [hf] at h0
    exact absurd rfl h0
   | some y =>
    have hm := List.mem_of_find?_eq_some hf
    have hy : y ≠ 0 := by simpa using List.find?_some hf
    rw [List.mem_map] at hm
    obtain ⟨S, hSm, rfl⟩ := hm
    have hs := hS S hSm
    have h100 : clauseN S T ≠ -100 := fun e => hn (by
     rw [List.any_eq_true]
     exact ⟨clauseN S T, List.mem_map.2 ⟨S, hSm, rfl⟩, by rw [e]; rfl⟩)
    refine ⟨S, hSm, ?_⟩
    show ∀ b, S.testBit b = true → b ≠ placeN (clauseN S T) → T.testBit (swp b) = true
    cases hc : clsd S T
    ·by_cases ho : opn S T = 0
     ·exact absurd (clauseN_empty hc ho) h100
     ·by_cases hr : woN (opn S T) (fstI (opn S T)) = 0
      ·have hlt : opn S T < 2 ^ 48 := srt.andN_lt _ _ hs
       rw [clauseN_one hc ho hr]
       exact opn_all S _ hs (fun b hb => (one_iff hlt ho).1 hr b _ hb (fst_spec (Nat.pos_of_ne_zero ho) hlt).2)
      ·exact absurd (clauseN_two hc ho hr) hy
    ·exact absurd (clauseN_closed hc) hy
theorem within {Ss : List Nat} {U : Nat} (hS : ∀ S ∈ Ss, S < 2 ^ 48) (hU : Cons U) (hq : ∀ S ∈ Ss, clauseN S U = 0) : ∀ (n T : Nat) (p : List Int), Sub T U → (frc Ss n T p).2 = true := by
 intro n
 induction n with
 | zero => intro T p _; rfl
 | succ n ih =>
  intro T p hs
  cases hk : (unitN Ss T).2
  ·exfalso
   obtain ⟨S, hm, hb⟩ := (unit_why hS).1 hk
   obtain ⟨h1, h2⟩ := quiet_in (y := 1000) (hS S hm) hU (hq S hm) (fun b hb' _ => hs _ (hb b hb'))
   rw [hi_bit (hS S hm) (by decide)] at h2
   cases h2
  ·by_cases h0 : (unitN Ss T).1 = 0
   ·rw [frc_end hk h0]
   ·obtain ⟨S, hm, hb⟩ := (unit_why hS).2 hk h0
    have h1 := (quiet_in (hS S hm) hU (hq S hm) (fun b hb' hne => hs _ (hb b hb' hne))).1
    rw [frc_more hk h0]
    refine ih _ _ (fun b hb' => ?_)
    rw [withN_bit, Bool.or_eq_true, decide_eq_true_iff] at hb'
    rcases hb' with q | q
    ·exact hs b q
    ·rw [← q]
     exact h1
theorem frc_has (Ss : List Nat) (n : Nat) (p : List Int) : Sub (setOf p) (setOf (frc Ss n (setOf p) p).1) := by
 obtain ⟨r, e⟩ := xw.frc_sub Ss n (setOf p) p
 intro b hb
 rw [e, fm.setOf_append, Nat.testBit_or, hb, Bool.true_or]
theorem not_fail {Ss : List Nat} {p : List Int} (hS : ∀ S ∈ Ss, S < 2 ^ 48) (hp : Cons (setOf p)) (h : (frc Ss 49 (setOf p) p).2 = true) : ∃ U, Cons U ∧ Sub (setOf p) U ∧ ∀ S ∈ Ss, clauseN S U = 0 := by
 refine ⟨setOf (frc Ss 49 (setOf p) p).1, frc_cons hS 49 p hp, frc_has Ss 49 p, unit_quiet ?_ hS⟩
 rw [mq.frc_unit hS 49 p (Nat.le_add_right _ _), h]
theorem more_fails {Ss Xs : List Nat} {p : List Int} (hS : ∀ S ∈ Ss, S < 2 ^ 48) (hX : ∀ S ∈ Xs, S < 2 ^ 48) (hp : Cons (setOf p)) (h : (frc Ss 49 (setOf p) p).2 = false) : (frc (Ss ++ Xs) 49 (setOf p) p).2 = false := by
 cases hf : (frc (Ss ++ Xs) 49 (setOf p) p).2
 ·rfl
 ·exfalso
  obtain ⟨U, hU, hs, hq⟩ := not_fail (fun S hm => by
   rcases List.mem_append.1 hm with q | q
   ·exact hS S q
   ·exact hX S q) hp hf
  have := within hS hU (fun S hm => hq S (List.mem_append_left _ hm)) 49 (setOf p) p hs
  rw [this] at h
  cases h
theorem both_fail {Ss : List Nat} {d : List Int} {x : Int} (hS : ∀ S ∈ Ss, S < 2 ^ 48) (hd : Cons (setOf d)) (hx : okB x = true) (h1 : setOf (negL (d ++ [-x])) ∈ Ss) (h2 : setOf (negL (d ++ [x])) ∈ Ss) : (frc Ss 49 (setOf d) d).2 = false := by
 cases hf : (frc Ss 49 (setOf d) d).2
 ·rfl
 ·exfalso
  obtain ⟨U, hU, hs, hq⟩ := not_fail hS hd hf
  have key : ∀ y, okB y = true → setOf (negL (d ++ [-y])) ∈ Ss → U.testBit (placeN y) = true := by
   intro y hy hm
   refine (quiet_in (S := setOf (negL (d ++ [-y]))) (setOf_lt _) hU (hq _ hm) (fun b hb hne => ?_)).1
   rw [set_neg, oppN_bit, Bool.and_eq_true, setOf_snoc, if_pos (opp_ok hy), withN_bit, Bool.or_eq_true, decide_eq_true_iff] at hb
   rcases hb.2 with q | q
   ·exact hs _ q
   ·exfalso
    apply hne
    rw [decide_eq_true_iff] at q
    rw [← swp_swp b, ← q, swp_place (opp_ok hy), Int.neg_neg]
  have a := key x hx h1
  have b := key (-x) (opp_ok hx) (by rw [Int.neg_neg]; exact h2)
  have := hU _ a
  rw [swp_place hx, b] at this
  cases this
theorem opp_opp {S : Nat} (h : S < 2 ^ 48) : oppN (oppN S) = S := by
 refine xw.bits_eq (oppN_lt _) h fun x hx => ?_
 have hp := placeN_le hx
 have hp' := placeN_le (opp_ok hx)
 rw [oppN_bit, oppN_bit, decide_eq_true (show placeN x < 48 by omega), swp_place hx, decide_eq_true (show placeN (-x) < 48 by omega), swp_place (opp_ok hx), Int.neg_neg]
 rfl
theorem fail_neg_neg (Ss : List Nat) (d : List Int) : failB Ss (oppN (setOf (negL d))) = !(frc Ss 49 (setOf d) d).2 := by
 rw [set_neg, opp_opp (setOf_lt d)]
 unfold wm.failB
 rw [frc_snd Ss 49 (setOf d) [] d]
theorem full_last {n : Int} {LL : List (List Int)} {k : Nat} {d : List Int} {C : List (List Int)} (h : full n LL k d = some C) : ∃ A, C = A ++ [negL d] := by
 cases k with
 | zero => cases h
 | succ k =>
  cases hf : (frc (LL.map setOf) 49 (setOf d) d).2
  ·rw [full_stop hf] at h
   cases h
   exact ⟨[], rfl⟩
  ·cases h0 : freeL n LL (frc (LL.map setOf) 49 (setOf d) d).1 with
   | nil => rw [full_end hf h0] at h; cases h
   | cons x r =>
    rw [full_more hf h0] at h
    cases ha : full n LL k (d ++ [-x]) with
    | none => rw [ha] at h; cases h
    | some A =>
     cases hb : full n LL k (d ++ [x]) with
     | none => rw [ha, hb] at h; cases h
     | some B =>
      rw [ha, hb] at h
      cases h
      exact ⟨A ++ B, rfl⟩
structure Dec_ (n : Int) (d : List Int) : Prop where
 lit : ∀ x ∈ d, litIn n x = true
 cons : Cons (setOf d)
 len : d.length ≤ pc (setOf d)
theorem Dec_.nil (n : Int) : Dec_ n [] := ⟨(fun x h => by cases h), (fun b h => by rw [show setOf [] = 0 from rfl, Nat.zero_testBit] at h; cases h), Nat.zero_le _⟩
theorem free_lit {n : Int} {LL : List (List Int)} {L r : List Int} {x : Int} (h : freeL n LL L = x :: r) : litIn n x = true ∧ litIn n (-x) = true := by
 have ok := free_ok h
 have hx : x ∈ freeL n LL L := by rw [h]; exact List.mem_cons_self ..
 have hc : cnfB n LL = true := by
  cases hb : cnfB n LL
  ·unfold fm.freeL at hx
   rw [hb] at hx
   cases hx
  ·rfl
 have hf := fm.cnf_facts hc
 obtain ⟨m, rfl⟩ := Int.eq_ofNat_of_zero_le hf.1
 unfold fm.freeL at hx
 rw [hc, if_pos rfl] at hx
 unfold srt.srt at hx
 rw [List.mem_map] at hx
 obtain ⟨i, hi, rfl⟩ := hx
 rw [List.mem_filter, List.mem_range] at hi
 have k := wm.litI_spec hi.1
 have hb := hi.2
 rw [fm.freeN_bit _ _ _ (by omega), Bool.and_eq_true, Bool.and_eq_true, decide_eq_true_iff, decide_eq_true_iff] at hb
 have hm : i < 2 * m := hb.1.1
 refine ⟨mq.place_lit ok.1 (by rw [k.2]; exact hm), mq.place_lit ok.2 ?_⟩
 rw [← swp_place ok.1, k.2]
 unfold srt.swp
 split <;> omega
theorem Dec_.more {n : Int} {LL : List (List Int)} {Ss : List Nat} {d r : List Int} {x : Int} (h : Dec_ n d) (h0 : freeL n LL (frc Ss 49 (setOf d) d).1 = x :: r) : Dec_ n (d ++ [-x]) ∧ Dec_ n (d ++ [x]) := by
 have ok := free_ok h0
 have nw := free_new h0
 have hp := free_pc h0
 have fl := free_lit h0
 have mem : ∀ y, litIn n y = true → ∀ z ∈ d ++ [y], litIn n z = true := by
  intro y hy z hz
  rcases List.mem_append.1 hz with q | q
  ·exact h.lit z q
  ·rw [List.mem_singleton] at q
   rw [q]
   exact hy
 have hl := h.len
 refine ⟨⟨mem _ fl.2, ?_, by rw [List.length_append, List.length_singleton]; omega⟩, ⟨mem _ fl.1, ?_, by rw [List.length_append, List.length_singleton]; omega⟩⟩
 ·rw [setOf_snoc, if_pos ok.2]
  exact cons_with h.cons ok.2 (by rw [Int.neg_neg]; exact nw.1)
 ·rw [setOf_snoc, if_pos ok.1]
  exact cons_with h.cons ok.1 nw.2
theorem neg_cl {n : Int} {d : List Int} (h : Dec_ n d) : clB n (negL d) = true := by
 have hp := pc_le (setOf d)
 have hl := h.len
 unfold ok.clB
 rw [Bool.and_eq_true, decide_eq_true_iff, List.all_eq_true]
 refine ⟨fun x hx => ?_, by unfold sp.negL; rw [List.length_map]; omega⟩
 unfold sp.negL at hx
 rw [List.mem_map] at hx
 obtain ⟨y, hy, rfl⟩ := hx
 have hly := h.lit y hy
 unfold ok.litIn at hly ⊢
 rw [Bool.and_eq_true, decide_eq_true_iff] at hly
 have hv : lits.varI (-y) = lits.varI y := by
  unfold lits.varI
  rw [opp_ok hly.1, hly.1]
  have := okB_iff.1 hly.1
  simp only [if_true]
  split <;> split <;> omega
 rw [opp_ok hly.1, hv, decide_eq_true hly.2]
 rfl
theorem full_good (n : Int) (LL : List (List Int)) : ∀ (k : Nat) (d : List Int) (C : List (List Int)) (Xs : List Nat), Dec_ n d → (∀ S ∈ Xs, S < 2 ^ 48) → full n LL k d = some C → badN n (LL.map setOf ++ Xs) C = C.length := by
 intro k
 induction k with
 | zero => intro d C Xs _ _ h; cases h
 | succ k ih =>
  intro d C Xs hd hX h
  have hcl := neg_cl hd
  have last : ∀ Ys : List Nat, failB (LL.map setOf ++ Ys) (oppN (setOf (negL d))) = true → badN n (LL.map setOf ++ Ys) [negL d] = 1 := by
   intro Ys hf
   rw [bad_cons, hcl, hf]
   rfl
  cases hf : (frc (LL.map setOf) 49 (setOf d) d).2
  ·rw [full_stop hf] at h
   cases h
   exact last Xs (by rw [fail_neg_neg, more_fails (set_bd LL) hX hd.cons hf]; rfl)
  ·cases h0 : freeL n LL (frc (LL.map setOf) 49 (setOf d) d).1 with
   | nil => rw [full_end hf h0] at h; cases h
   | cons x r =>
    have dm := hd.more h0
    have ok := free_ok h0
    rw [full_more hf h0] at h
    cases ha : full n LL k (d ++ [-x]) with
    | none => rw [ha] at h; cases h
    | some A =>
     cases hb : full n LL k (d ++ [x]) with
     | none => rw [ha, hb] at h; cases h
     | some B =>
      rw [ha, hb] at h
      cases h
      have iA := ih (d ++ [-x]) A Xs dm.1 hX ha
      have hXA : ∀ S ∈ Xs ++ A.map setOf, S < 2 ^ 48 := fun S hm => by
       rcases List.mem_append.1 hm with q | q
       ·exact hX S q
       ·exact set_bd A S q
      have iB := ih (d ++ [x]) B (Xs ++ A.map setOf) dm.2 hXA hb
      rw [← List.append_assoc] at iB
      obtain ⟨A', eA⟩ := full_last ha
      obtain ⟨B', eB⟩ := full_last hb
      have hXB : ∀ S ∈ LL.map setOf ++ (Xs ++ (A ++ B).map setOf), S < 2 ^ 48 := fun S hm => by
       rcases List.mem_append.1 hm with q | q
       ·exact set_bd LL S q
       ·rcases List.mem_append.1 q with q | q
        ·exact hX S q
        ·exact set_bd _ S q
      have hAB : badN n (LL.map setOf ++ Xs) (A ++ B) = (A ++ B).length := by
       rw [bad_app, if_pos iA, iB, List.length_append]
      have e1 := last (Xs ++ (A ++ B).map setOf) (by
       rw [fail_neg_neg, both_fail hXB hd.cons ok.1 ?_ ?_]
       ·rfl
       ·refine List.mem_append_right _ (List.mem_append_right _ (List.mem_map.2 ⟨negL (d ++ [-x]), ?_, rfl⟩))
        rw [eA]
        simp
       ·refine List.mem_append_right _ (List.mem_append_right _ (List.mem_map.2 ⟨negL (d ++ [x]), ?_, rfl⟩))
        rw [eB]
        simp)
      rw [← List.append_assoc] at e1
      show badN n (LL.map setOf ++ Xs) (A ++ B ++ [negL d]) = (A ++ B ++ [negL d]).length
      rw [bad_app, if_pos hAB, e1]
      simp
      omega
theorem refute_check {n : Int} {LL C : List (List Int)} {k : Nat} (hc : cnfB n LL = true) (h : full n LL k [] = some C) (h7 : C.length ≤ 700) : xe.checkB n LL C = true := by
 have g := full_good n LL k [] C [] (Dec_.nil n) (fun S hm => by cases hm) h
 rw [List.append_nil] at g
 obtain ⟨A, e⟩ := full_last h
 refine xt.check_of hc h7 g (by rw [e]; simp) ?_
 rw [e]
 simp [sp.negL]
theorem sound_one {m W : Nat} {Ss : List Nat} {L : List Int} (hS : ∀ S ∈ Ss, S < 2 ^ 48) (hb : ∀ S ∈ Ss, ∀ b, S.testBit b = true → b < 2 * m) (hf : ml.Fair m W) (hm : ∀ S ∈ Ss, S &&& W ≠ 0) (hL : ∀ x ∈ L, litIn (m : Int) x = true) (h : failB Ss (oppN (setOf L)) = true) : setOf L &&& W ≠ 0 := by
 intro hz
 have no : ∀ b, (setOf L).testBit b = true → W.testBit b = false := fun b q => by
  have := congrArg (fun z => z.testBit b) hz
  simpa [Nat.testBit_and, q] using this
 have hbL : ∀ b, (setOf L).testBit b = true → b < 2 * m := fun b q => by
  rcases Nat.lt_or_ge b (2 * m) with z | z
  ·exact z
  ·rw [fm.set_hi hL b z] at q
   cases q
 have hT : ∀ b, (oppN (setOf L)).testBit b = true → W.testBit b = true := fun b q => by
  rw [oppN_bit, Bool.and_eq_true] at q
  have h1 := hf _ (hbL _ q.2)
  rw [swp_swp, no _ q.2] at h1
  exact h1
 have := ml.force_true hS hb hf hm 49 (oppN (setOf L)) [] hT
 unfold wm.failB at h
 rw [this] at h
 cases h
theorem sound_all {m W : Nat} (hf : ml.Fair m W) : ∀ (C : List (List Int)) (Ss : List Nat), (∀ S ∈ Ss, S < 2 ^ 48) → (∀ S ∈ Ss, ∀ b, S.testBit b = true → b < 2 * m) → (∀ S ∈ Ss, S &&& W ≠ 0) → badN (m : Int) Ss C = C.length → ∀ L ∈ C, setOf L &&& W ≠ 0 := by
 intro C
 induction C with
 | nil => intro Ss _ _ _ _ L hL; cases hL
 | cons M C ih =>
  intro Ss hS hb hm h L hL
  rw [bad_cons] at h
  cases hq : clB (m : Int) M && failB Ss (oppN (setOf M))
  ·rw [hq] at h
   simp at h
  ·rw [hq, if_pos rfl, List.length_cons] at h
   rw [Bool.and_eq_true] at hq
   have hcl := hq.1
   unfold ok.clB at hcl
   rw [Bool.and_eq_true, List.all_eq_true] at hcl
   have hM := sound_one hS hb hf hm hcl.1 hq.2
   rcases List.mem_cons.1 hL with q | q
   ·rw [q]
    exact hM
   ·refine ih (Ss ++ [setOf M]) (fun S hs => ?_) (fun S hs => ?_) (fun S hs => ?_) (by omega) L q
    ·rcases List.mem_append.1 hs with z | z
     ·exact hS S z
     ·rw [List.mem_singleton] at z
      rw [z]
      exact setOf_lt M
    ·rcases List.mem_append.1 hs with z | z
     ·exact hb S z
     ·rw [List.mem_singleton] at z
      rw [z]
      intro b q'
      rcases Nat.lt_or_ge b (2 * m) with y | y
      ·exact y
      ·rw [fm.set_hi hcl.1 b y] at q'
       cases q'
    ·rcases List.mem_append.1 hs with z | z
     ·exact hm S z
     ·rw [List.mem_singleton] at z
      rw [z]
      exact hM
theorem check_sound {m W : Nat} {LL C : List (List Int)} (h : xe.checkB (m : Int) LL C = true) (hf : ml.Fair m W) : ∃ S ∈ LL.map setOf, S &&& W = 0 := by
 apply Classical.byContradiction
 intro hn
 obtain ⟨hc, _, hb, h0, hz⟩ := xt.check_facts h
 have facts := fm.cnf_facts hc
 have hm : ∀ S ∈ LL.map setOf, S &&& W ≠ 0 := fun S hs e => hn ⟨S, hs, e⟩
 have hbb : ∀ S ∈ LL.map setOf, ∀ b, S.testBit b = true → b < 2 * m := fun S hs b q => by
  rw [List.mem_map] at hs
  obtain ⟨M, hM, rfl⟩ := hs
  rcases Nat.lt_or_ge b (2 * m) with y | y
  ·exact y
  ·rw [fm.set_hi (facts.2.2.2 M hM).2 b y] at q
   cases q
 have hlast : C.getD (C.length - 1) [] ∈ C := by
  rw [List.getD, List.getElem?_eq_getElem (by omega)]
  exact List.getElem_mem _
 have := sound_all hf C (LL.map setOf) (set_bd LL) hbb hm hb _ hlast
 have e : C.getD (C.length - 1) [] = [] := List.eq_nil_of_length_eq_zero hz
 rw [e] at this
 exact this (Nat.zero_and W)
end Go.Proofs.YtfhmdpbnnieohaaDoor.xs
