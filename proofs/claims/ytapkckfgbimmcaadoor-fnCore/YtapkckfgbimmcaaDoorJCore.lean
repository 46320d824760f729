/- SolveWith and Solve, the program's beside the model's: one answer. Plain mathematics of Backbone: the literals that are true at every answer. What Backbone answers, the program's and the model's, at every formula that holds at most 2^20 values. What the program's Core answers at every formula that holds at most 2^20 values and every list of at most 2^20 numbers, where the library's table of places lies as its text lays it. What Next answers, the program's and the model's, at every formula that holds at most 2^20 values and every list of at most 2^20 numbers. What the model's Core answers at every formula that holds at most 2^20 values and every list of at most 2^20 numbers. Plain mathematics of FnCore: what is left cannot be true, and without any one of it the rest can. -/
import Derived.Test.YtapkckfgbimmcaaDoorKz
import Derived.Test.YtapkckfgbimmcaaDoorTl
namespace Go.Proofs.YtapkckfgbimmcaaDoor.ks
open Go.Proofs.YtapkckfgbimmcaaDoor.lq (solveL FromE)
open Go.Proofs.YtapkckfgbimmcaaDoor.css (Sls tot)
open Go.Proofs.YtapkckfgbimmcaaDoor.sl (ints)
set_option linter.unusedVariables false
theorem solve_len (n : Int) (LL : List (List Int)) (a : List Int) : ((solveL n LL a).getD []).length ≤ 24 := by
  unfold lq.solveL
  split
  · rename_i h
    rw [Bool.and_eq_true] at h
    obtain ⟨m, rfl, h24, _⟩ := cnf_parts h.1
    cases e : lq.lst ((m : Int)).toNat (lq.holds LL a) with
    | none => exact Nat.zero_le _
    | some l =>
      have := (lq.lst_some e).1.1
      show l.length ≤ 24
      omega
  · exact Nat.zero_le _
theorem bothW (n : Int) (LL : List (List Int)) (L : List Int) (hn : tot LL ≤ 1048576) (hL : L.length ≤ 1048576) : ∃ (R : List Int) (b : Bool), R.length ≤ 1048576 ∧
    (∀ v u (lo hi : Nat) w, Sls w v LL → sl.Own lo hi w u L → Calls Tryd.prog 39 #[.agg #[.int .i64 n, v], u] w fun e w' => ∃ r, e = .returned (.tuple #[r, .bool b]) ∧ w'.ownsRow w.heap.size 3 1 r R.length (ints R) ∧ w.grownBy w' none) ∧
    (∀ v u (lo hi : Nat) w, srt.Tab w → Sls w v LL → sl.Own lo hi w u L → Calls Tryd.prog 20 #[.agg #[.int .i64 n, v], u] w fun e w' => ∃ r, e = .returned (.tuple #[r, .bool b]) ∧ w'.ownsRow w.heap.size 3 1 r R.length (ints R) ∧ w.grownBy w' none) :=
  ⟨_, _, Nat.le_trans (solve_len n LL L) (by omega), fun v u lo hi w h k => lq.specSolveWith v u n LL L lo hi w hn hL h k, fun v u lo hi w t h k => implSolveWith v u n LL L w t hn hL h k.sl⟩
theorem bothS (n : Int) (LL : List (List Int)) (hn : tot LL ≤ 1048576) : ∃ (R : List Int) (b : Bool), R.length ≤ 1048576 ∧
    (∀ v w, Sls w v LL → Calls Tryd.prog 15 #[.agg #[.int .i64 n, v]] w fun e w' => ∃ r, e = .returned (.tuple #[r, .bool b]) ∧ w'.ownsRow w.heap.size 3 1 r R.length (ints R) ∧ w.grownBy w' none) ∧
    (∀ v w, srt.Tab w → Sls w v LL → Calls Tryd.prog 14 #[.agg #[.int .i64 n, v]] w fun e w' => ∃ r, e = .returned (.tuple #[r, .bool b]) ∧ w'.ownsRow w.heap.size 3 1 r R.length (ints R) ∧ w.grownBy w' none) :=
  ⟨_, _, Nat.le_trans (solve_len n LL []) (by omega), fun v w h => lq.specSolve v n LL w hn h, fun v w t h => implSolve v n LL w t hn h⟩
end Go.Proofs.YtapkckfgbimmcaaDoor.ks
namespace Go.Proofs.YtapkckfgbimmcaaDoor.ks
open Go.Proofs.YtapkckfgbimmcaaDoor.lq (Bits holds solveL lst_none lst_some)
open Go.Proofs.YtapkckfgbimmcaaDoor.km (plc wdB left_)
open Go.Proofs.YtapkckfgbimmcaaDoor.srt (srt litI swp swp_swp)
open Go.Proofs.YtapkckfgbimmcaaDoor.bset (setOf placeN)
open Go.Proofs.YtapkckfgbimmcaaDoor.lits (okB)
open Go.Proofs.YtapkckfgbimmcaaDoor.ok (cnfB litIn)
set_option linter.unusedVariables false
/-- whether there is an answer with one literal -/
def can1 (n : Int) (LL : List (List Int)) (x : Int) : Bool := (solveL n LL [x]).isSome
def bbs (n : Int) (LL : List (List Int)) : Nat → List Int
  | 0 => []
  | k + 1 => (bbs n LL k ++ if can1 n LL (-((k : Int) + 1)) then [] else [(k : Int) + 1]) ++ if can1 n LL ((k : Int) + 1) then [] else [-((k : Int) + 1)]
/-- what Backbone answers -/
def backL (n : Int) (LL : List (List Int)) : List Int := if (solveL n LL []).isSome then bbs n LL n.toNat else []
theorem bbs_len (n : Int) (LL : List (List Int)) (k : Nat) : (bbs n LL k).length ≤ 2 * k := by
  induction k with
  | zero => exact Nat.zero_le _
  | succ k ih =>
    show ((bbs n LL k ++ if can1 n LL (-((k : Int) + 1)) then [] else [(k : Int) + 1]) ++ if can1 n LL ((k : Int) + 1) then [] else [-((k : Int) + 1)]).length ≤ _
    rw [List.length_append, List.length_append]
    have h1 : (if can1 n LL (-((k : Int) + 1)) then ([] : List Int) else [(k : Int) + 1]).length ≤ 1 := by split <;> simp
    have h2 : (if can1 n LL ((k : Int) + 1) then ([] : List Int) else [-((k : Int) + 1)]).length ≤ 1 := by split <;> simp
    omega
theorem back_len (n : Int) (LL : List (List Int)) : (backL n LL).length ≤ 48 := by
  unfold backL
  split
  · rename_i h
    unfold lq.solveL at h
    split at h
    · rename_i h2
      rw [Bool.and_eq_true] at h2
      obtain ⟨m, rfl, h24, _⟩ := cnf_parts h2.1
      have := bbs_len (m : Int) LL ((m : Int)).toNat
      omega
    · cases h
  · exact Nat.zero_le _
/-- the literal at place b is true at every answer -/
def Fo (n : Nat) (LL : List (List Int)) (b : Nat) : Prop := ∀ l, Bits n l → holds LL [] l = true → wdB l b = true
theorem lit_in {n b : Nat} (h24 : n ≤ 24) (h : b / 2 < n) : litIn (n : Int) (litI b) = true ∧ litIn (n : Int) (-(litI b)) = true ∧ placeN (-(litI b)) = swp b ∧ okB (-(litI b)) = true := by
  have key : ∀ x : Int, (x = ((b / 2 : Nat) : Int) + 1 ∨ x = -(((b / 2 : Nat) : Int) + 1)) → litIn (n : Int) x = true := by
    intro x hx
    have ho : okB x = true := by rw [lits.okB_iff]; omega
    unfold ok.litIn
    rw [ho, Bool.true_and, decide_eq_true_iff]
    unfold lits.varI
    rcases hx with h | h <;> (first | (split <;> omega) | omega)
  rcases Nat.mod_two_eq_zero_or_one b with e | e
  · have eb : b = 2 * (b / 2) := by omega
    have el : litI b = ((b / 2 : Nat) : Int) + 1 := by rw [eb, srt.litI_even]; congr 2; omega
    have hp := srt.place_neg (b / 2) (by omega)
    rw [el]
    refine ⟨key _ (.inl rfl), key _ (.inr rfl), ?_, hp.1⟩
    rw [hp.2]
    unfold srt.swp
    split <;> omega
  · have eb : b = 2 * (b / 2) + 1 := by omega
    have el : litI b = -(((b / 2 : Nat) : Int) + 1) := by rw [eb, srt.litI_odd]; congr 3; omega
    have hp := srt.place_pos (b / 2) (by omega)
    rw [el, Int.neg_neg]
    refine ⟨key _ (.inr rfl), key _ (.inl rfl), ?_, hp.1⟩
    rw [hp.2]
    unfold srt.swp
    split <;> omega
theorem holds_one {LL : List (List Int)} {x : Int} {l : List Int} : holds LL [x] l = (holds LL [] l && tr.litT l x) := by
  unfold lq.holds
  simp
theorem can_iff {n : Nat} {LL : List (List Int)} {b : Nat} (h24 : n ≤ 24) (hc : cnfB (n : Int) LL = true) (hb : b / 2 < n) : can1 (n : Int) LL (-(litI b)) = false ↔ Fo n LL b := by
  obtain ⟨i1, i2, i3, i4⟩ := lit_in h24 hb
  unfold can1
  rw [solve_yes hc (by simp [i2]), Option.isSome_eq_false_iff, Option.isNone_iff_eq_none]
  show lq.lst n _ = none ↔ _
  rw [lst_none]
  constructor
  · intro h l hl hh
    have h1 := h l hl
    rw [show ([] : List Int) ++ l = l from rfl, holds_one, hh, Bool.true_and, ← km.wd_lit hl h24 i2, i3] at h1
    rcases km.wd_some hl.2 (b := b) (by rw [hl.1]; exact hb) with z | z
    · exact z
    · rw [h1] at z; cases z
  · intro h l hl
    rw [show ([] : List Int) ++ l = l from rfl, holds_one]
    cases hh : holds LL [] l with
    | false => rfl
    | true =>
      rw [Bool.true_and, ← km.wd_lit hl h24 i2, i3]
      exact km.wd_one hl.2 (h l hl hh)
theorem srt_back {n : Nat} {LL : List (List Int)} {C : Nat} (h24 : n ≤ 24) (hc : cnfB (n : Int) LL = true) (hC : ∀ b, C.testBit b = true ↔ b / 2 < n ∧ Fo n LL b) : srt C 48 = bbs (n : Int) LL n := by
  have e : ∀ k, k ≤ n → srt C (2 * k) = bbs (n : Int) LL k := by
    intro k
    induction k with
    | zero => intro _; rfl
    | succ k ih =>
      intro hk
      show srt C (2 * k + 1 + 1) = (bbs (n : Int) LL k ++ if can1 (n : Int) LL (-((k : Int) + 1)) then [] else [(k : Int) + 1]) ++ if can1 (n : Int) LL ((k : Int) + 1) then [] else [-((k : Int) + 1)]
      rw [← ih (by omega)]
      have c0 := can_iff (LL := LL) (b := 2 * k) h24 hc (by omega)
      have c1 := can_iff (LL := LL) (b := 2 * k + 1) h24 hc (by omega)
      rw [srt.litI_even] at c0
      rw [srt.litI_odd, Int.neg_neg] at c1
      have s0 : srt C (2 * k + 1) = srt C (2 * k) ++ if can1 (n : Int) LL (-((k : Int) + 1)) then [] else [(k : Int) + 1] := by
        cases z : can1 (n : Int) LL (-((k : Int) + 1)) with
        | false => rw [srt.srt_yes ((hC _).2 ⟨by omega, c0.1 z⟩), srt.litI_even]; rfl
        | true =>
          rw [srt.srt_no (by
            cases q : C.testBit (2 * k) with
            | false => rfl
            | true => have := c0.2 ((hC _).1 q).2; rw [z] at this; cases this)]
          simp
      have s1 : srt C (2 * k + 1 + 1) = srt C (2 * k + 1) ++ if can1 (n : Int) LL ((k : Int) + 1) then [] else [-((k : Int) + 1)] := by
        cases z : can1 (n : Int) LL ((k : Int) + 1) with
        | false => rw [srt.srt_yes ((hC _).2 ⟨by omega, c1.1 z⟩), srt.litI_odd]; rfl
        | true =>
          rw [srt.srt_no (by
            cases q : C.testBit (2 * k + 1) with
            | false => rfl
            | true => have := c1.2 ((hC _).1 q).2; rw [z] at this; cases this)]
          simp
      rw [s1, s0]
  rw [← e n (Nat.le_refl _)]
  exact srt.srt_skip (by omega) (fun i h1 h2 => by
    cases q : C.testBit i with
    | false => rfl
    | true => have := ((hC _).1 q).1; omega)
/-- what the program has in common of its answers behind k literals -/
structure Com (n : Nat) (LL : List (List Int)) (P k C : Nat) : Prop where
  lt : C < 2 ^ 48
  sub : ∀ b, C.testBit b = true → P.testBit b = true
  fo : ∀ b, P.testBit b = true → Fo n LL b → C.testBit b = true
  did : ∀ j, j < k → ∀ b, (srt P 48)[j]? = some (litI b) → b < 48 → C.testBit b = true → Fo n LL b
theorem Com.start {n : Nat} {LL : List (List Int)} {P : Nat} (h : P < 2 ^ 48) : Com n LL P 0 P := ⟨h, fun _ h => h, fun _ h _ => h, fun j hj => by omega⟩
theorem litI_inj {a b : Nat} (ha : a < 48) (hb : b < 48) (h : litI a = litI b) : a = b := by
  have h1 := (lit_place ha).2.1
  have h2 := (lit_place hb).2.1
  rw [h] at h1
  exact h1.symm.trans h2
theorem Com.skip {n : Nat} {LL : List (List Int)} {P k C b : Nat} (h : Com n LL P k C) (hb : b < 48) (hx : (srt P 48)[k]? = some (litI b)) (hf : C.testBit b = true → Fo n LL b) : Com n LL P (k + 1) C := by
  refine ⟨h.lt, h.sub, h.fo, fun j hj b' h1 h2 h3 => ?_⟩
  by_cases e : j < k
  · exact h.did j e b' h1 h2 h3
  · obtain rfl : j = k := by omega
    rw [hx] at h1
    have := litI_inj hb h2 (Option.some.inj h1)
    subst this
    exact hf h3
theorem Com.meet {n : Nat} {LL : List (List Int)} {P k C b Q : Nat} {l : List Int} (h : Com n LL P k C) (hb : b < 48) (hx : (srt P 48)[k]? = some (litI b)) (hl : Bits n l) (hh : holds LL [] l = true) (hQ : Word l Q) (hq : Q.testBit b = false) : Com n LL P (k + 1) (C &&& Q) := by
  have w1 : ∀ b, Fo n LL b → Q.testBit b = true := fun b hf => by rw [hQ.2]; exact hf l hl hh
  refine ⟨Nat.lt_of_le_of_lt Nat.and_le_left h.lt, fun b' h1 => ?_, fun b' h1 h2 => ?_, fun j hj b' h1 h2 h3 => ?_⟩
  · rw [Nat.testBit_and, Bool.and_eq_true] at h1
    exact h.sub b' h1.1
  · rw [Nat.testBit_and, h.fo b' h1 h2, w1 b' h2]
    rfl
  · rw [Nat.testBit_and, Bool.and_eq_true] at h3
    by_cases e : j < k
    · exact h.did j e b' h1 h2 h3.1
    · obtain rfl : j = k := by omega
      rw [hx] at h1
      have := litI_inj hb h2 (Option.some.inj h1)
      subst this
      rw [hq] at h3
      cases h3.2
theorem srt_form {S j : Nat} : ∀ x ∈ srt S j, ∃ b, b < j ∧ S.testBit b = true ∧ x = litI b := by
  induction j with
  | zero => intro x hx; cases hx
  | succ j ih =>
    intro x hx
    cases q : S.testBit j with
    | true =>
      rw [srt.srt_yes q, List.mem_append] at hx
      rcases hx with hx | hx
      · obtain ⟨b, h1, h2, h3⟩ := ih x hx
        exact ⟨b, by omega, h2, h3⟩
      · simp at hx
        exact ⟨j, by omega, q, hx⟩
    | false =>
      rw [srt.srt_no q] at hx
      obtain ⟨b, h1, h2, h3⟩ := ih x hx
      exact ⟨b, by omega, h2, h3⟩
theorem srt_has {S j b : Nat} (hb : b < j) (h : S.testBit b = true) : litI b ∈ srt S j := by
  induction j with
  | zero => omega
  | succ j ih =>
    by_cases e : b = j
    · subst e
      rw [srt.srt_yes h]
      simp
    · cases q : S.testBit j with
      | true => rw [srt.srt_yes q]; exact List.mem_append_left _ (ih (by omega))
      | false => rw [srt.srt_no q]; exact ih (by omega)
theorem Com.fin {n : Nat} {LL : List (List Int)} {P k C : Nat} {l : List Int} (h24 : n ≤ 24) (hc : cnfB (n : Int) LL = true) (h : Com n LL P k C) (hk : (srt P 48).length ≤ k) (hl : Bits n l) (hh : holds LL [] l = true) (hP : Word l P) : srt C 48 = bbs (n : Int) LL n := by
  refine srt_back h24 hc fun b => ⟨fun hb => ?_, fun ⟨h1, h2⟩ => ?_⟩
  · have p := h.sub b hb
    have b48 : b < 48 := by
      rcases Nat.lt_or_ge b 48 with q | q
      · exact q
      · rw [srt.hi_bit h.lt q] at hb; cases hb
    have hm := srt_has b48 p
    obtain ⟨j, hj⟩ := List.mem_iff_getElem?.1 hm
    have hjl := (List.getElem?_eq_some_iff.1 hj).1
    refine ⟨?_, h.did j (by omega) b hj b48 hb⟩
    rw [hP.2, wdB, Bool.and_eq_true, decide_eq_true_iff] at p
    rw [← hl.1]
    exact p.1
  · exact h.fo b (by rw [hP.2]; exact h2 l hl hh) h2
end Go.Proofs.YtapkckfgbimmcaaDoor.ks
namespace Go.Proofs.YtapkckfgbimmcaaDoor.ks
open Go.ChangeShapes Go.WideShapes Go.ChangeAt Go.RowKit
open Go.Proofs.YtapkckfgbimmcaaDoor.kd (SV Slv)
open Go.Proofs.YtapkckfgbimmcaaDoor.km (left_)
open Go.Proofs.YtapkckfgbimmcaaDoor.lq (solveL FromE lits_in solve_no made_sub)
open Go.Proofs.YtapkckfgbimmcaaDoor.srt (Tab srt litI)
open Go.Proofs.YtapkckfgbimmcaaDoor.bset (setOf setOf_lt placeN)
open Go.Proofs.YtapkckfgbimmcaaDoor.css (Sls tot)
open Go.Proofs.YtapkckfgbimmcaaDoor.cf (Box)
open Go.Proofs.YtapkckfgbimmcaaDoor.ok (cnfB litIn)
open Go.Proofs.YtapkckfgbimmcaaDoor.wo (Made)
open Go.Proofs.YtapkckfgbimmcaaDoor.sl (Sl ints hide unhide grown_refl grown_trans)
set_option linter.unusedVariables false
theorem back_no {n : Int} {LL : List (List Int)} (h : solveL n LL [] = none) : backL n LL = [] := by
  unfold backL
  rw [h]
  rfl
theorem back_yes {m : Nat} {LL : List (List Int)} {l : List Int} (h : solveL (m : Int) LL [] = some l) : backL (m : Int) LL = bbs (m : Int) LL m := by
  unfold backL
  rw [h]
  rfl
theorem made_up {w w1 w2 : World} {v : Value} {L : List Int} (h : Made w w1 v L) (g : w1.grownBy w2 none) : Made w w2 v L :=
  ⟨h.1.kept g (by cases v.ownBlock with | none => exact .inl rfl | some k => exact .inr (by simp)), grown_trans h.2 g⟩
theorem own_lit (w : World) (x : Int) : sl.Own w.heap.size (w.heap.size + 1) (w.alloc (.cells #[.int .i64 x] 3)) (.slice (some ⟨w.heap.size, 0, none⟩) 1 1) [x] :=
  ⟨World.ownsRow_lit w #[.int .i64 x] 1 (Nat.le_refl _) (by unfold maxLen; omega) rfl, fun k e => by cases e; exact Nat.lt_succ_self _⟩
set_option maxRecDepth 100000 in
set_option maxHeartbeats 4000000 in
theorem specBackbone (v : Value) (n : Int) (LL : List (List Int)) (w : World) (hn : tot LL ≤ 1048576) (hv : Sls w v LL) :
    Calls Tryd.prog 30 #[.agg #[.int .i64 n, v]] w fun e w' => ∃ r, e = .returned r ∧ Made w w' r (backL n LL) := by
  have g0 := World.grownBy_alloc w (.cells #[.int .i64 n, v] 26) none
  have m0 := app.made_nil (w.alloc (.cells #[.int .i64 n, v] 26))
  have g1 := World.grownBy_alloc (w.alloc (.cells #[.int .i64 n, v] 26)) (.cells #[] 3) none
  have F0 := hide (Box.new 26 w (.int .i64 n) v)
  have G0 := hide g0
  have cs := lq.specSolve v n LL _ hn ((hv.kept g0).kept g1)
  simp only [World.size_alloc] at m0
  have M0 := hide m0
  have HV := hide (hv.kept g0)
  have x0 := ((unhide F0).kept g1).c0
  have x1 := ((unhide F0).kept g1).c1
  clear hv g0 g1 m0
  cases ho : solveL n LL [] with
  | none =>
    rw [ho] at cs
    rw [back_no ho]
    have CS := hide cs
    clear cs ho HV
    go_enter Tryd.func30, Tryd.ntmps30
    go_wp2_with fail
    refine (unhide CS).mono ?_; rintro e w2 ⟨r, rfl, m2⟩
    have M2 := hide (made_up (unhide M0) m2.2)
    clear m2 F0 x0 x1 M0 CS
    go_wp2_with fail
    go_ret
    exact ⟨_, rfl, made_sub (unhide G0) (unhide M2)⟩
  | some l =>
    have hc : cnfB n LL = true := by
      cases z : cnfB n LL with
      | true => rfl
      | false => rw [solve_no (by rw [z]; rfl)] at ho; cases ho
    obtain ⟨m, rfl, h24, h120⟩ := cnf_parts hc
    rw [ho] at cs
    rw [back_yes ho]
    have CS := hide cs
    clear cs ho hc
    go_enter Tryd.func30, Tryd.ntmps30
    go_wp2_with fail
    refine (unhide CS).mono ?_; rintro e w2 ⟨r, rfl, m2⟩
    have M2 := hide (made_up (unhide M0) m2.2)
    clear m2 x0 x1 M0 CS
    go_wp2_with fail
    go_loopw [3, 6] (fun r i wr => ∃ k : Nat, k ≤ m ∧ i = .int .i64 ((k : Int) + 1) ∧ Made (w.alloc (.cells #[.int .i64 (m : Int), v] 26)) wr r (bbs (m : Int) LL k)) (fun _ i _ => 30 - (intOf i).toNat)
    case atStart => exact ⟨0, Nat.zero_le _, rfl, unhide M2⟩
    case round =>
      obtain ⟨k, hk, rfl, hmd⟩ := hrel
      clear M2
      have hbx := hide ((unhide F0).kept hmd.2)
      have x0 := (unhide hbx).c0
      have x1 := (unhide hbx).c1
      by_cases hlt : k < m
      · have hi' : (k : Int) + 1 ≤ (m : Int) := by omega
        have gA := World.grownBy_alloc wr (.cells #[.int .i64 ((k : Int) + 1)] 3) none
        have y0 := ((unhide hbx).kept gA).c0
        have y1 := ((unhide hbx).kept gA).c1
        have CA := hide (lq.specSolveWith v (.slice (some ⟨wr.heap.size, 0, none⟩) 1 1) (m : Int) LL [(k : Int) + 1] _ _ _ hn (by simp) (((unhide HV).kept hmd.2).kept gA) (own_lit wr _))
        have MA := hide (made_up hmd gA)
        have hle : (bbs (m : Int) LL k).length ≤ 48 := Nat.le_trans (bbs_len _ _ _) (by omega)
        have E : Hid (bbs (m : Int) LL (k + 1) = (bbs (m : Int) LL k ++ if can1 (m : Int) LL (-((k : Int) + 1)) then [] else [(k : Int) + 1]) ++ if can1 (m : Int) LL ((k : Int) + 1) then [] else [-((k : Int) + 1)]) := rfl
        unfold can1 at E
        have CB' := hide (fun (w3 : World) (g : (w.alloc (.cells #[.int .i64 (m : Int), v] 26)).grownBy w3 none) => lq.specSolveWith v (.slice (some ⟨w3.heap.size, 0, none⟩) 1 1) (m : Int) LL [-((k : Int) + 1)] _ _ _ hn (by simp) (((unhide HV).kept g).kept (World.grownBy_alloc w3 (.cells #[.int .i64 (-((k : Int) + 1))] 3) none)) (own_lit w3 _))
        unfold lq.FromE at CA CB'
        generalize (solveL (m : Int) LL [-((k : Int) + 1)]).getD [] = RA at *
        generalize (solveL (m : Int) LL [(k : Int) + 1]).getD [] = RB at *
        generalize (solveL (m : Int) LL [-((k : Int) + 1)]).isSome = p at *
        generalize (solveL (m : Int) LL [(k : Int) + 1]).isSome = q at *
        generalize bbs (m : Int) LL k = M at *
        clear gA hmd
        go_wp2_with fail
        refine (unhide CA).mono ?_; rintro e w3 ⟨r3, rfl, m3⟩
        have M3 := hide (made_up (unhide MA) m3.2)
        have B3 := hide ((unhide F0).kept (unhide M3).2)
        have z0 := (unhide B3).c0
        have z1 := (unhide B3).c1
        have gB := World.grownBy_alloc w3 (.cells #[.int .i64 (-((k : Int) + 1))] 3) none
        have z2 := ((unhide B3).kept gB).c0
        have z3 := ((unhide B3).kept gB).c1
        have CB := hide (unhide CB' w3 (unhide M3).2)
        have MB := hide (made_up (unhide M3) gB)
        clear gB m3 MA CA x0 x1 y0 y1 M3
        go_wp2_with fail
        refine (unhide CB).mono ?_; rintro e w4 ⟨r4, rfl, m4⟩
        have M4 := hide (made_up (unhide MB) m4.2)
        clear m4 MB CB z0 z1 z2 z3 B3 hbx
        clear CB'
        cases p
        · obtain ⟨o4, g4⟩ := unhide M4
          clear M4
          go_wp2_with (at_builtin; refine wo.append1 g4 o4 (by omega) rfl _ _ rfl rfl rfl ?_)
          intro v' w5 R
          cases q
          · obtain ⟨o5, g5⟩ := R
            have h5 : (M ++ [(k : Int) + 1]).length ≤ 49 := by rw [List.length_append]; simp; omega
            generalize hM5 : M ++ [(k : Int) + 1] = M5 at *
            have H5 := hide hM5
            clear hM5
            go_wp2_with (at_builtin; refine wo.append1 g5 o5 (by omega) rfl _ _ rfl rfl rfl ?_)
            intro v'' w6 R6
            go_wp2
            go_roundw
            case rel => exact ⟨k + 1, by omega, by go_num, by have e := unhide E; simp at e; rw [e, show M ++ [(k : Int) + 1, -((k : Int) + 1)] = (M ++ [(k : Int) + 1]) ++ [-((k : Int) + 1)] by simp, unhide H5]; exact R6⟩
            case measure => simp [intOf]; omega
          · have R' := hide R
            clear R
            go_wp2
            go_roundw
            case rel => exact ⟨k + 1, by omega, by go_num, by have e := unhide E; simp at e; rw [e]; exact unhide R'⟩
            case measure => simp [intOf]; omega
        · cases q
          · obtain ⟨o4, g4⟩ := unhide M4
            clear M4
            go_wp2_with (at_builtin; refine wo.append1 g4 o4 (by omega) rfl _ _ rfl rfl rfl ?_)
            intro v' w5 R
            go_wp2
            go_roundw
            case rel => exact ⟨k + 1, by omega, by go_num, by have e := unhide E; simp at e; rw [e]; exact R⟩
            case measure => simp [intOf]; omega
          · go_wp2
            go_roundw
            case rel => exact ⟨k + 1, by omega, by go_num, by have e := unhide E; simp at e; rw [e]; exact unhide M4⟩
            case measure => simp [intOf]; omega
      · have hk' : k = m := by omega
        subst hk'
        have M2 := hide hmd
        clear hmd hbx
        go_wp2_with fail
        go_ret
        exact ⟨_, rfl, made_sub (unhide G0) (unhide M2)⟩
set_option maxRecDepth 100000 in
set_option maxHeartbeats 4000000 in
theorem implBackbone (v : Value) (n : Int) (LL : List (List Int)) (w : World) (hT : Tab w) (hn : tot LL ≤ 1048576) (hv : Sls w v LL) :
    Calls Tryd.prog 29 #[.agg #[.int .i64 n, v]] w fun e w' => ∃ r, e = .returned r ∧ Made w w' r (backL n LL) := by
  have g0 := World.grownBy_alloc w (.cells #[.int .i64 n, v] 26) none
  have C1 := ok.implCnfOk v n LL _ hn (hv.kept g0)
  have F0 := hide (Box.new 26 w (.int .i64 n) v)
  have HV := hide (hv.kept g0)
  have HT := hide (hT.kept g0)
  have G0 := hide g0
  have x0 := (unhide F0).c0
  have x1 := (unhide F0).c1
  clear g0 hv hT
  cases hc : cnfB n LL
  · rw [hc] at C1
    have CC := hide C1
    rw [back_no (solve_no (n := n) (LL := LL) (a := []) (by rw [hc]; rfl))]
    clear C1 hc HV
    go_enter Tryd.func29, Tryd.ntmps29
    go_wp2_with fail
    refine (unhide CC).mono ?_; rintro e w1 ⟨rfl, g1⟩
    have G1 := hide (grown_trans (r := none) (unhide G0) g1)
    clear g1 CC x0 x1
    go_wp2_with fail
    go_ret
    exact ⟨_, rfl, made_sub (unhide G1) (app.made_nil _)⟩
  rw [hc] at C1
  have CC := hide C1
  have HC := hide hc
  obtain ⟨m, rfl, h24, h120⟩ := cnf_parts hc
  clear C1 hc
  go_enter Tryd.func29, Tryd.ntmps29
  go_wp2_with fail
  refine (unhide CC).mono ?_; rintro e w1 ⟨rfl, g1⟩
  have G1 := hide (grown_trans (r := none) (unhide G0) g1)
  have F1 := hide ((unhide F0).kept g1)
  have T1 := hide ((unhide HT).kept g1)
  have CS := hide (solverOf v m LL w1 (unhide T1) h24 h120 hn (lits_in (unhide HC)) ((unhide HV).kept g1))
  have y0 := (unhide F1).c0
  have y1 := (unhide F1).c1
  clear g1 CC x0 x1 G0 F0 HV HT
  go_wp2_with fail
  refine (unhide CS).mono ?_; rintro e w2 ⟨c, s, rfl, h1, h2, g2⟩
  have H1 := hide h1
  have H2 := hide h2
  have G2 := hide (grown_trans (r := none) (unhide G1) g2)
  have T2 := hide ((unhide T1).kept g2)
  have CL : Hid (Calls Tryd.prog 63 #[.pointer (some ⟨c, 0, none⟩), .int .u64 0] w2 fun e w' => LeastE m LL [] w2 e w') := callsIn_wide.1 (least m LL [] s c 0 h2 (fun x hx => by cases hx) w2 h1 (unhide T2))
  clear h1 h2 g2 y0 y1 CS G1 F1 T1
  go_wp2_with fail
  refine (unhide CL).mono ?_
  rintro e w3 ⟨g3, ho⟩
  have ST : Hid (∃ P, P < 2 ^ 48 ∧ (∀ k C, Com m LL P k C → (srt P 48).length ≤ k → srt C 48 = backL (m : Int) LL) ∧ (∀ b, P.testBit b = true → b / 2 < m) ∧ ∃ bb, e = .returned (.tuple #[.int .u64 (P : Int), .bool bb])) := by
    rcases ho with ⟨hN, rfl⟩ | ⟨l, P, hN, hW, hh, rfl⟩
    · refine ⟨0, by decide, fun k C h _ => ?_, fun b hb => by simp at hb, false, rfl⟩
      have hC : C = 0 := Nat.eq_of_testBit_eq fun b => by
        cases q : C.testBit b with
        | false => simp
        | true => have := h.sub b q; simp at this
      subst hC
      rw [back_no ((solve_yes (a := []) (unhide HC) rfl).trans hN)]
      decide
    · have hb := left_bits hN
      refine ⟨P, hW.1, fun k C h hk => ?_, fun b h => ?_, true, rfl⟩
      · rw [back_yes ((solve_yes (a := []) (unhide HC) rfl).trans hN)]
        exact h.fin h24 (unhide HC) hk hb hh hW
      · rw [hW.2, km.wdB, Bool.and_eq_true, decide_eq_true_iff] at h
        rw [← hb.1]
        exact h.1
  obtain ⟨P, hP, hF, hpn, bb, rfl⟩ := unhide ST
  have HF := hide hF
  have HPN := hide hpn
  have G3 := hide (grown_trans (r := none) (unhide G2) g3)
  have S3 := hide ((unhide H1).kept g3)
  have T3 := hide ((unhide T2).kept g3)
  have CI := hide (srt.list P w3 (unhide T3) hP)
  clear ST hF hpn ho g3 CL H1 T2
  go_wp2_with fail
  refine (unhide CI).mono ?_
  rintro e w4 ⟨u4, rfl, o4, g4⟩
  obtain ⟨ua, uc, rfl, hcell⟩ := sl.Sl.of_own o4
  have HCE := hide hcell
  have hl48 := srt.srt_len P 48
  have G4 := hide g4
  clear o4 g4 CI hcell
  go_wp2_with fail
  go_loopw [4, 25] (fun cv iv wr => ∃ (C k : Nat), k ≤ (srt P 48).length ∧ cv = .int .u64 (C : Int) ∧ iv = .int .i64 (k : Int) ∧ Hid (Com m LL P k C) ∧ Hid (w4.grownBy wr none)) (fun _ iv _ => (srt P 48).length - (intOf iv).toNat)
  case atStart => exact ⟨P, 0, Nat.zero_le _, rfl, rfl, Com.start hP, grown_refl _⟩
  case round =>
    obtain ⟨C, k, hk, rfl, rfl, hcom, hg⟩ := hrel
    by_cases hlt : k < (srt P 48).length
    · obtain ⟨b, hb48, hbP, hx⟩ := srt_form _ (List.getElem_mem hlt)
      have hxk : (srt P 48)[k]? = some (litI b) := by rw [List.getElem?_eq_getElem hlt, hx]
      rcases unhide HCE with h | ⟨g, off, rfl, hbl, hcb⟩
      · rw [h] at hlt
        simp at hlt
      · have c1 := (unhide hg).cell (hcb k hlt) (fun e => by cases e)
        rw [show (srt P 48).getD k 0 = litI b by rw [List.getD, hxk]; rfl] at c1
        have hi' : (k : Int) < ((srt P 48).length : Int) := by omega
        obtain ⟨l1, l2, l3⟩ := lit_place hb48
        obtain ⟨i1, i2, i3, i4⟩ := lit_in (n := m) h24 (unhide HPN b hbP)
        have lb := srt.litI_bd b hb48
        have lb1 := lb.1
        have lb2 := lb.2
        have hcm := unhide hcom
        have CB := fun w' => bset.hasC C (litI b) w' hcm.lt l1
        rw [l2] at CB
        cases hbit : C.testBit b
        · rw [hbit] at CB
          have CB' := hide CB
          have K := hide (hcm.skip hb48 hxk (fun z => by rw [hbit] at z; cases z))
          clear CB hbit hcm l1 l2 l3 i1 i2 i3 i4 lb hcb hxk hx
          generalize litI b = y at *
          generalize (srt P 48).length = N at *
          go_wp2_with fail
          refine (unhide CB' _).mono ?_
          rintro e w5 ⟨rfl, hw⟩
          have hw' := hw.symm
          clear hw
          subst hw'
          go_wp2_with fail
          go_roundw
          case rel => exact ⟨C, k + 1, by omega, rfl, by go_num, unhide K, unhide hg⟩
          case measure => simp [intOf]; omega
        · rw [hbit] at CB
          have CB' := hide CB
          have CW := fun w' => bset.withC 0 (-(litI b)) w' (by decide) i4
          have es : bset.withN 0 (-(litI b)) = setOf [-(litI b)] := by
            have := bset.setOf_snoc [] (-(litI b))
            rw [i4] at this
            exact this.symm
          rw [es] at CW
          have CW' : Hid (∀ w', Calls Tryd.prog 58 #[.int .u64 0, .int .i8 (-(litI b))] w' fun e w'' => e = .returned (.int .u64 (setOf [-(litI b)] : Int)) ∧ w'' = w') := CW
          have CM := hide (fun w' (gg : w3.grownBy w' none) => callsIn_wide.1 (least m LL [-(litI b)] s c 0 (unhide H2) (fun x hx => by simp at hx; rw [hx]; exact i2) w' ((unhide S3).kept gg) ((unhide T3).kept gg)))
          have K0 : Hid (left_ m LL [-(litI b)] [] = none → Com m LL P (k + 1) C) := fun hN => hcm.skip hb48 hxk (fun _ => (can_iff h24 (unhide HC) (unhide HPN b hbP)).1 (by
            unfold can1
            rw [solve_yes (unhide HC) (by simp [i2]), hN]
            rfl))
          have K1 : Hid (∀ l Q, left_ m LL [-(litI b)] [] = some l → Word l Q → lq.holds LL [-(litI b)] l = true → Com m LL P (k + 1) (C &&& Q)) := fun l Q hN hW hh => by
            have hb := left_bits hN
            rw [holds_one, Bool.and_eq_true] at hh
            refine hcm.meet hb48 hxk hb hh.1 hW ?_
            have z := hh.2
            rw [← km.wd_lit hb h24 i2, i3] at z
            rw [hW.2]
            have := km.wd_one hb.2 z
            rwa [srt.swp_swp] at this
          have EA := hide (fun Q (h : Q < 2 ^ 48) => srt.and_eq C Q hcm.lt h)
          clear CB hbit hcm l1 l2 l3 i1 i2 i3 i4 lb hcb hxk hx es CW
          unfold LeastE at CM
          generalize setOf [-(litI b)] = Z at *
          generalize left_ m LL [-(litI b)] [] = O at *
          generalize litI b = y at *
          generalize (srt P 48).length = N at *
          go_wp2_with fail
          refine (unhide CB' _).mono ?_
          rintro e w5 ⟨rfl, hw⟩
          have hw' := hw.symm
          clear hw
          subst hw'
          go_wp2_with fail
          refine (unhide CW' _).mono ?_
          rintro e w5 ⟨rfl, hw⟩
          have hw' := hw.symm
          clear hw
          subst hw'
          go_wp2_with fail
          refine (unhide CM _ (grown_trans (unhide G4) (unhide hg))).mono ?_
          rintro e w5 ⟨g5, ⟨hN, rfl⟩ | ⟨l, Q, hN, hW, hh, rfl⟩⟩
          · have K := hide (unhide K0 hN)
            have G5 := hide (grown_trans (r := none) (unhide hg) g5)
            clear g5 hN K0 K1 CM
            go_wp2_with fail
            go_roundw
            case rel => exact ⟨C, k + 1, by omega, rfl, by go_num, unhide K, unhide G5⟩
            case measure => simp [intOf]; omega
          · have K := hide (unhide K1 l Q hN hW hh)
            have G5 := hide (grown_trans (r := none) (unhide hg) g5)
            have E := hide (unhide EA Q hW.1)
            clear g5 hN K0 K1 CM hW hh EA
            go_wp2_with fail
            go_roundw
            case rel => exact ⟨C &&& Q, k + 1, by omega, by rw [unhide E], by go_num, unhide K, unhide G5⟩
            case measure => simp [intOf]; omega
    · have hi' : ¬ (k : Int) < ((srt P 48).length : Int) := by omega
      have E := hide (unhide HF k C (unhide hcom) (by omega))
      have hClt := (unhide hcom).lt
      have CI := hide (srt.list C wr ((unhide T3).kept (grown_trans (unhide G4) (unhide hg))) hClt)
      generalize (srt P 48).length = N at *
      go_wp2_with fail
      refine (unhide CI).mono ?_
      rintro e w5 ⟨u5, rfl, o5, g5⟩
      have M5 : Hid (Made wr w5 u5 (srt C 48)) := ⟨o5, g5⟩
      clear o5 g5 CI
      go_wp2_with fail
      go_ret
      rw [← unhide E]
      exact ⟨_, rfl, made_sub (grown_trans (unhide G3) (grown_trans (unhide G4) (unhide hg))) (unhide M5)⟩
theorem bothB (n : Int) (LL : List (List Int)) (hn : tot LL ≤ 1048576) : ∃ (R : List Int), R.length ≤ 1048576 ∧
    (∀ v w, Sls w v LL → Calls Tryd.prog 30 #[.agg #[.int .i64 n, v]] w fun e w' => ∃ r, e = .returned r ∧ w'.ownsRow w.heap.size 3 1 r R.length (ints R) ∧ w.grownBy w' none) ∧
    (∀ v w, srt.Tab w → Sls w v LL → Calls Tryd.prog 29 #[.agg #[.int .i64 n, v]] w fun e w' => ∃ r, e = .returned r ∧ w'.ownsRow w.heap.size 3 1 r R.length (ints R) ∧ w.grownBy w' none) :=
  ⟨_, Nat.le_trans (back_len n LL) (by omega), fun v w h => specBackbone v n LL w hn h, fun v w t h => implBackbone v n LL w t hn h⟩
end Go.Proofs.YtapkckfgbimmcaaDoor.ks
namespace Go.Proofs.YtapkckfgbimmcaaDoor.ks
open Go.ChangeShapes Go.WideShapes Go.ChangeAt Go.RowKit
open Go.Proofs.YtapkckfgbimmcaaDoor.kd (SV Slv)
open Go.Proofs.YtapkckfgbimmcaaDoor.km (left_)
open Go.Proofs.YtapkckfgbimmcaaDoor.lq (solveL FromE lits_in solve_no made_sub holds)
open Go.Proofs.YtapkckfgbimmcaaDoor.srt (Tab)
open Go.Proofs.YtapkckfgbimmcaaDoor.lits (okB)
open Go.Proofs.YtapkckfgbimmcaaDoor.bset (setOf setOf_lt placeN withN)
open Go.Proofs.YtapkckfgbimmcaaDoor.css (Sls tot)
open Go.Proofs.YtapkckfgbimmcaaDoor.cf (Box)
open Go.Proofs.YtapkckfgbimmcaaDoor.ok (cnfB litIn)
open Go.Proofs.YtapkckfgbimmcaaDoor.wo (Made)
open Go.Proofs.YtapkckfgbimmcaaDoor.su (MadeU words)
open Go.Proofs.YtapkckfgbimmcaaDoor.sl (Sl ints hide unhide grown_refl grown_trans)
set_option linter.unusedVariables false
/-- whether the formula can be true with a list of literals -/
def cano (n : Int) (LL : List (List Int)) (a : List Int) : Bool := (solveL n LL a).isSome
def coreG (n : Int) (LL : List (List Int)) : List Int → List Int → List Int
  | K, [] => K
  | K, x :: R => if cano n LL (K ++ R) then coreG n LL (K ++ [x]) R else coreG n LL K R
/-- what Core answers -/
def coreO (n : Int) (LL : List (List Int)) (a : List Int) : Option (List Int) := if cnfB n LL && a.all (litIn n) then (if cano n LL a then none else some (coreG n LL [] a)) else none
theorem coreG_len (n : Int) (LL : List (List Int)) (R : List Int) : ∀ K, (coreG n LL K R).length ≤ K.length + R.length := by
  induction R with
  | nil => intro K; exact Nat.le_refl _
  | cons x R ih =>
    intro K
    rw [coreG]
    split
    · have := ih (K ++ [x])
      rw [List.length_append] at this
      simp at this ⊢
      omega
    · have := ih K
      simp
      omega
theorem core_len (n : Int) (LL : List (List Int)) (a : List Int) : ((coreO n LL a).getD []).length ≤ a.length := by
  unfold coreO
  split
  · split
    · exact Nat.zero_le _
    · have := coreG_len n LL a []
      show (coreG n LL [] a).length ≤ _
      simpa using this
  · exact Nat.zero_le _
theorem core_yes {n : Int} {LL : List (List Int)} {K R : List Int} {x : Int} (h : cano n LL (K ++ R) = true) : coreG n LL K (x :: R) = coreG n LL (K ++ [x]) R := by rw [coreG, h]; rfl
theorem core_no {n : Int} {LL : List (List Int)} {K R : List Int} {x : Int} (h : cano n LL (K ++ R) = false) : coreG n LL K (x :: R) = coreG n LL K R := by rw [coreG, h]; rfl
theorem setOf_app (K R : List Int) : setOf (K ++ R) = setOf K ||| setOf R := by
  apply Nat.eq_of_testBit_eq
  intro b
  rw [Nat.testBit_or, bset.setOf_bit, bset.setOf_bit, bset.setOf_bit, List.any_append]
theorem setOf_cons {x : Int} {R : List Int} (h : okB x = true) : withN (setOf R) x = setOf (x :: R) := by
  apply Nat.eq_of_testBit_eq
  intro b
  rw [bset.withN_bit, bset.setOf_bit, bset.setOf_bit, List.any_cons, h, Bool.true_and, Bool.or_comm]
theorem lit_ok {n : Int} {x : Int} (h : litIn n x = true) : okB x = true := by
  unfold ok.litIn at h
  rw [Bool.and_eq_true] at h
  exact h.1
/-- a literal that is there already asks nothing more -/
theorem cano_dup {n : Int} {LL : List (List Int)} {K R : List Int} {x : Int} (hx : x ∈ K ++ R) (hl : litIn n x = true) (h : cano n LL (K ++ x :: R) = false) : cano n LL (K ++ R) = false := by
  have e : solveL n LL (K ++ x :: R) = solveL n LL (K ++ R) := by
    unfold lq.solveL
    have e1 : (K ++ x :: R).all (litIn n) = (K ++ R).all (litIn n) := by
      rw [List.all_append, List.all_append, List.all_cons, hl, Bool.true_and]
    have e2 : lq.holds LL (K ++ x :: R) = lq.holds LL (K ++ R) := by
      funext A
      unfold lq.holds
      congr 1
      rw [List.all_append, List.all_append, List.all_cons]
      cases z : tr.litT A x with
      | true => rw [Bool.true_and]
      | false =>
        rw [Bool.false_and, Bool.and_false]
        symm
        rw [← List.all_append, List.all_eq_false]
        exact ⟨x, hx, by rw [z]; decide⟩
    rw [e1, e2]
  unfold cano at *
  rw [← e]
  exact h
theorem has_mem {L : List Int} {x : Int} (ho : okB x = true) (hL : ∀ y ∈ L, okB y = true) : (setOf L).testBit (placeN x) = true ↔ x ∈ L := by
  constructor
  · intro h
    obtain ⟨y, hy, h1, h2⟩ := km.set_lit h
    rwa [bset.placeN_inj h1 ho h2] at hy
  · intro h
    exact km.lit_set h ho
/-- the words of what stands behind, laid from place i on -/
def bh (a : List Int) (i : Nat) : List Nat := (List.range a.length).map fun p => if i ≤ p then setOf (a.drop (p + 1)) else 0
theorem bh_len (a : List Int) (i : Nat) : (bh a i).length = a.length := by simp [bh]
theorem bh_at {a : List Int} {i p : Nat} (hp : p < a.length) : (bh a i)[p]? = some (if i ≤ p then setOf (a.drop (p + 1)) else 0) := by simp [bh, hp]
theorem words_at {S : List Nat} {p s : Nat} (h : S[p]? = some s) : (words S)[p]? = some (.int .u64 (s : Int)) := by simp [su.words, h]
theorem bh_last (a : List Int) (i : Nat) (h : a.length ≤ i + 1) : words (bh a i) = List.replicate a.length (.int .u64 0) := by
  apply List.ext_getElem?
  intro p
  by_cases hp : p < a.length
  · rw [words_at (bh_at hp), List.getElem?_replicate, if_pos hp]
    have : (if i ≤ p then setOf (a.drop (p + 1)) else 0) = 0 := by
      split
      · rw [List.drop_eq_nil_of_le (by omega)]
        rfl
      · rfl
    rw [this]
    rfl
  · rw [List.getElem?_eq_none (by simp [su.words, bh_len]; omega), List.getElem?_eq_none (by simp; omega)]
theorem bh_step {a : List Int} {i : Nat} (h : i + 1 < a.length) (ho : okB (a.getD (i + 1) 0) = true) : (words (bh a (i + 1))).set i (.int .u64 (withN (setOf (a.drop (i + 1 + 1))) (a.getD (i + 1) 0) : Int)) = words (bh a i) := by
  apply List.ext_getElem?
  intro p
  have hl : (words (bh a (i + 1))).length = a.length := by simp [su.words, bh_len]
  rw [List.getElem?_set, hl]
  by_cases hp : p < a.length
  · rw [words_at (bh_at (i := i) hp)]
    by_cases e : i = p
    · subst e
      rw [if_pos rfl, if_pos (by omega), if_pos (Nat.le_refl _), setOf_cons ho]
      have : a.drop (i + 1) = a.getD (i + 1) 0 :: a.drop (i + 1 + 1) := by
        rw [List.getD_eq_getElem?_getD, List.getElem?_eq_getElem h]
        exact List.drop_eq_getElem_cons h
      rw [this]
    · rw [if_neg e, words_at (bh_at hp)]
      by_cases q : i ≤ p
      · rw [if_pos q, if_pos (by omega)]
      · rw [if_neg q, if_neg (by omega)]
  · have z : (words (bh a i))[p]? = none := List.getElem?_eq_none (by simp [su.words, bh_len]; omega)
    rw [z]
    split
    · omega
    · exact List.getElem?_eq_none (by omega)
theorem wrap8 {y : Int} (h1 : -24 ≤ y) (h2 : y ≤ 24) : IntKind.i8.wrap y = y := by
  have key : ∀ j : Fin 49, IntKind.i8.wrap ((j.val : Int) - 24) = (j.val : Int) - 24 := by decide
  have := key ⟨(y + 24).toNat, by omega⟩
  rw [show (((y + 24).toNat : Nat) : Int) - 24 = y by omega] at this
  exact this
theorem infoU' : (Tryd.prog.info? 59).map (fun i => (i.zero, i.size, i.bytes)) = some (some (.int .u64 0), 1, 8) := su.infoU
set_option maxRecDepth 100000 in
set_option maxHeartbeats 4000000 in
theorem setsBehind (u : Value) (a : List Int) (w : World) (ha : a.length ≤ 1048576) (ho : ∀ x ∈ a, okB x = true) (hu : Sl w u a) :
    Calls Tryd.prog 64 #[u] w fun e w' => ∃ r, e = .returned r ∧ MadeU w w' r (bh a 0) := by
  obtain ⟨ua, uc, rfl, hcell⟩ := hu
  have HCE := hide hcell
  obtain ⟨i0, hi, hz0, hz1, hz2⟩ := info_parts su.infoU
  have HO := hide ho
  clear hcell ho
  go_enter Tryd.func64, Tryd.ntmps64
  go_wp2_with (first | (at_make; refine wpList_make_full _ rfl _ _ 53 rfl w.heap.size 59 i0 (.int .u64 0) 1 Tryd.underlying53 hi hz0 hz1 _ _ _ _ a.length rfl rfl (by rfl) (by rfl) ?b1 ?b2 ?b3 ?_))
  case b1 => rw [hz2]; omega
  case b2 => unfold maxLen; omega
  case b3 => exact Nat.le_refl _
  intro w1 hown hgrow
  have O : Hid (w1.ownsRow w.heap.size 59 1 (.slice (some ⟨w.heap.size, 0, none⟩) a.length a.length) a.length (words (bh a (a.length - 1)))) := by
    have e : (madeCells #[Value.int .u64 0] a.length).toList = words (bh a (a.length - 1)) := by
      rw [toList_madeCells_one, bh_last a _ (by omega)]
    show _
    rw [← e]
    exact hown
  have G := hide hgrow
  clear hown hgrow
  go_wp2_with fail
  go_loopw [4] (fun i wr => ∃ (j : Int) (k : Nat), k ≤ a.length - 1 ∧ i = .int .i64 j ∧ (j = (k : Int) ∨ a.length = 0 ∧ j = -1) ∧ wr.ownsRow w.heap.size 59 1 (.slice (some ⟨w.heap.size, 0, none⟩) a.length a.length) a.length (words (bh a k)) ∧ w.grownBy wr none) (fun i _ => (intOf i).toNat)
  case atStart => exact ⟨_, a.length - 1, by omega, rfl, by go_num, unhide O, unhide G⟩
  case round =>
    obtain ⟨j, k, hk, rfl, hj, hown, hg⟩ := hrel
    clear O G
    by_cases hpos : 0 < j
    · obtain ⟨i, hki⟩ : ∃ i, k = i + 1 := ⟨k - 1, by omega⟩
      obtain rfl : j = (k : Int) := by omega
      have hlt : k < a.length := by omega
      rcases unhide HCE with h | ⟨b, off, rfl, hbl, hcb⟩
      · rw [h] at hlt
        simp at hlt
      · have c1 := hg.cell (hcb k hlt) (fun e => by cases e)
        have hm : a.getD k 0 ∈ a := by
          rw [List.getD_eq_getElem?_getD, List.getElem?_eq_getElem hlt]
          exact List.getElem_mem hlt
        have hok := unhide HO _ hm
        have hb := lits.okB_iff.1 hok
        have hb1 := hb.2.1
        have hb2 := hb.2.2
        have c2 : wr.cell? ⟨w.heap.size, k, none⟩ = some (.int .u64 (setOf (a.drop (k + 1)) : Int)) := by
          rw [hown.cellAt k (by omega), words_at (bh_at hlt), if_pos (Nat.le_refl _)]
        have c3 : wr.cell? ⟨w.heap.size, i, none⟩ = some (.int .u64 0) := by
          rw [hown.cellAt i (by omega), words_at (bh_at (by omega)), if_neg (by omega)]
          rfl
        have f3 : wr.frozen? ⟨w.heap.size, i, none⟩ = false := hown.frozenAt i
        have O' := (hown.stored i (.int .u64 (withN (setOf (a.drop (k + 1))) (a.getD k 0) : Int))).1
        have bs := bh_step (a := a) (i := i) (by omega) (by rw [← hki]; exact hok)
        rw [← hki] at bs
        rw [bs] at O'
        have O2 := hide O'
        have G2 := hide (cu.grow1 hg (sl.grown_setCell wr w.heap.size i (.int .u64 (withN (setOf (a.drop (k + 1))) (a.getD k 0) : Int))) (Nat.le_refl _))
        have CW0 := (fun w' => bset.withC (setOf (a.drop (k + 1))) (a.getD k 0) w' (setOf_lt _) hok)
        have hy8 := wrap8 hb1 hb2
        have CW : Hid (∀ w', Calls Tryd.prog 58 #[.int .u64 (setOf (a.drop (k + 1)) : Int), .int .i8 (IntKind.i8.wrap (a.getD k 0))] w' fun e w'' => e = .returned (.int .u64 (withN (setOf (a.drop (k + 1))) (a.getD k 0) : Int)) ∧ w'' = w') := by
          intro w'
          rw [hy8]
          exact CW0 w'
        have hi1 : (k : Int) < (a.length : Int) := by omega
        have hi3 : (0 : Int) ≤ (k : Int) - 1 := by omega
        have hi6 : (k : Int) - 1 < (a.length : Int) := by omega
        have hi7 : ((k : Int) - 1).toNat = i := by omega
        have hw1 : IntKind.i64.wrap ((k : Int) - 1) = (k : Int) - 1 := by rw [IntKind.wrap_i64]; omega
        have hi8 : (1 : Int) ≤ (k : Int) := by omega
        have hi9 : (k : Int) ≤ (a.length : Int) := by omega
        have hi10 : 1 ≤ k := by omega
        have hi11 : k ≤ a.length := by omega
        have hi12 : k - 1 = i := by omega
        have hi4 : ¬ k = i := by omega
        have hi5 : 0 < (k : Int) := by omega
        have hi2 : (i : Int) < (a.length : Int) := by omega
        have hkk : i ≤ a.length - 1 := by omega
        have hne1 : ¬ b = w.heap.size := by omega
        have hne2 : ¬ w.heap.size = b := by omega
        clear hcb hown hg hok hb hm O' hj hpos hk CW0 hy8 hb1 hb2 bs hki hlt
        generalize withN (setOf (a.drop (k + 1))) (a.getD k 0) = Z at *
        generalize setOf (a.drop (k + 1)) = Y at *
        generalize a.getD k 0 = y at *
        go_wp2_with fail
        have hst : Hid ((wr.setCell ⟨w.heap.size, i, none⟩ (.int .u64 (Z : Int))).drew.cell? ⟨w.heap.size, k, none⟩ = some (.int .u64 (Y : Int)) ∧ (wr.setCell ⟨w.heap.size, i, none⟩ (.int .u64 (Z : Int))).drew.cell? ⟨b, off + k, none⟩ = some (.int .i64 y)) := by
          refine ⟨?_, ?_⟩
          · show (wr.setCell ⟨w.heap.size, i, none⟩ (.int .u64 (Z : Int))).cell? _ = _
            exact (World.cell?_setCell_other wr _ _ _ (fun e => hi4 (congrArg Addr.off e).symm)).trans c2
          · show (wr.setCell ⟨w.heap.size, i, none⟩ (.int .u64 (Z : Int))).cell? _ = _
            exact (World.cell?_setCell_other wr _ _ _ (fun e => hne2 (congrArg Addr.block e))).trans c1
        go_region_held3 (fun w' => w'.cell? ⟨w.heap.size, k, none⟩ = some (.int .u64 (Y : Int)) ∧ w'.cell? ⟨b, off + k, none⟩ = some (.int .i64 y)) (first | exact unhide hst | go_keep) (first
          | (go_at_call 58; refine (unhide CW _).mono ?_; rintro e w8 ⟨rfl, hw⟩; have hw' := hw.symm; clear hw; subst hw'))
        all_goals
          go_wp2_with fail
          go_roundw
          case rel => exact ⟨(i : Int), i, hkk, by go_num, .inl rfl, unhide O2, grown_trans (unhide G2) (cf.grown_drew _ none)⟩
          case measure => simp [intOf]; omega
    · have e : bh a k = bh a 0 := by
        rcases hj with h | ⟨h, _⟩
        · have : k = 0 := by omega
          rw [this]
        · simp [bh, h]
      rw [e] at hown
      have O2 := hide hown
      have G2 := hide hg
      have hl := bh_len a 0
      clear hown hg hj e
      go_wp2_with fail
      go_ret
      refine ⟨_, rfl, ?_, unhide G2⟩
      rw [bh_len]
      exact unhide O2
theorem row_ne {w : World} {b n z b' n' z' : Nat} {e e' : TypeId} {v v' : Value} {xs xs' : List Value} (h : w.ownsRow b e z v n xs) (h' : w.ownsRow b' e' z' v' n' xs') (he : (e : Nat) ≠ e') : v.ownBlock = none ∨ v.ownBlock ≠ v'.ownBlock := by
  cases q : v.ownBlock with
  | none => exact .inl rfl
  | some g =>
    right
    intro q'
    obtain ⟨c, fz, hc⟩ := css.own_kind h g q
    obtain ⟨c', fz', hc'⟩ := css.own_kind h' g q'.symm
    rw [hc] at hc'
    simp only [Option.some.injEq, Obj.cells.injEq] at hc'
    exact he hc'.2.1
theorem mup {w w1 w2 : World} {v : Value} {L : List Int} (h : Made w w1 v L) (g : w1.grownBy w2 none) : Made w w2 v L :=
  ⟨h.1.kept g (by cases v.ownBlock with | none => exact .inl rfl | some k => exact .inr (by simp)), grown_trans h.2 g⟩
theorem core_none {n : Int} {LL : List (List Int)} {a : List Int} (h : (cnfB n LL && a.all (litIn n)) = false) : coreO n LL a = none := by
  unfold coreO
  rw [h]
  rfl
/-- the program on its way through the assumptions -/
structure Cor (n : Nat) (LL : List (List Int)) (a K : List Int) (k : Nat) : Prop where
  eq : coreG (n : Int) LL [] a = coreG (n : Int) LL K (a.drop k)
  no : cano (n : Int) LL (K ++ a.drop k) = false
  li : ∀ x ∈ K, litIn (n : Int) x = true
  le : K.length ≤ k
theorem drop_at {a : List Int} {k : Nat} (h : k < a.length) : a.drop k = a.getD k 0 :: a.drop (k + 1) := by
  rw [List.getD_eq_getElem?_getD, List.getElem?_eq_getElem h]
  exact List.drop_eq_getElem_cons h
theorem Cor.off {n : Nat} {LL : List (List Int)} {a K : List Int} {k : Nat} (h : Cor n LL a K k) (hk : k < a.length) (hc : cano (n : Int) LL (K ++ a.drop (k + 1)) = false) : Cor n LL a K (k + 1) := by
  refine ⟨?_, hc, h.li, Nat.le_succ_of_le h.le⟩
  rw [h.eq, drop_at hk, core_no hc]
theorem Cor.on {n : Nat} {LL : List (List Int)} {a K : List Int} {k : Nat} (h : Cor n LL a K k) (hk : k < a.length) (hl : litIn (n : Int) (a.getD k 0) = true) (hc : cano (n : Int) LL (K ++ a.drop (k + 1)) = true) : Cor n LL a (K ++ [a.getD k 0]) (k + 1) := by
  refine ⟨?_, ?_, ?_, ?_⟩
  · rw [h.eq, drop_at hk, core_yes hc]
  · rw [List.append_assoc, List.singleton_append, ← drop_at hk]
    exact h.no
  · intro x hx
    rw [List.mem_append] at hx
    rcases hx with hx | hx
    · exact h.li x hx
    · simp at hx
      rw [hx]
      exact hl
  · rw [List.length_append]
    have := h.le
    simp
    omega
theorem Cor.dup {n : Nat} {LL : List (List Int)} {a K : List Int} {k : Nat} (h : Cor n LL a K k) (hk : k < a.length) (hl : litIn (n : Int) (a.getD k 0) = true) (hx : a.getD k 0 ∈ K ++ a.drop (k + 1)) : Cor n LL a K (k + 1) := by
  refine h.off hk (cano_dup hx hl ?_)
  rw [← drop_at hk]
  exact h.no
set_option maxRecDepth 100000 in
set_option maxHeartbeats 8000000 in
theorem implCore (v u : Value) (n : Int) (LL : List (List Int)) (a : List Int) (w : World) (hT : Tab w) (hn : tot LL ≤ 1048576) (ha : a.length ≤ 1048576) (hv : Sls w v LL) (hu : Sl w u a) :
    Calls Tryd.prog 26 #[.agg #[.int .i64 n, v], u] w fun e w' => FromE w (coreO n LL a) e w' := by
  obtain ⟨O, hO⟩ : ∃ O, coreO n LL a = O := ⟨_, rfl⟩
  rw [hO]
  have HO := hide hO
  clear hO
  have g0 := World.grownBy_alloc w (.cells #[.int .i64 n, v] 26) none
  have C1 := ok.implCnfOk v n LL _ hn (hv.kept g0)
  have F0 := hide (Box.new 26 w (.int .i64 n) v)
  have HU := hide (hu.kept g0 (.inl rfl))
  have HV := hide (hv.kept g0)
  have HT := hide (hT.kept g0)
  have G0 := hide g0
  have x0 := (unhide F0).c0
  have x1 := (unhide F0).c1
  clear g0 hv hu hT
  cases hc : cnfB n LL
  · rw [hc] at C1
    have CC := hide C1
    have E := hide ((unhide HO).symm.trans (core_none (n := n) (LL := LL) (a := a) (by rw [hc]; rfl)))
    clear C1 hc HV HU
    go_enter Tryd.func26, Tryd.ntmps26
    go_wp2_with fail
    refine (unhide CC).mono ?_; rintro e w1 ⟨rfl, g1⟩
    have G1 := hide (grown_trans (r := none) (unhide G0) g1)
    clear g1 CC x0 x1
    go_wp2_with fail
    go_ret2
    rw [unhide E]
    exact ⟨_, rfl, made_sub (unhide G1) (app.made_nil _)⟩
  rw [hc] at C1
  have CC := hide C1
  have HC := hide hc
  clear C1 hc
  go_enter Tryd.func26, Tryd.ntmps26
  go_wp2_with fail
  refine (unhide CC).mono ?_; rintro e w1 ⟨rfl, g1⟩
  have G1 := hide (grown_trans (r := none) (unhide G0) g1)
  have F1 := hide ((unhide F0).kept g1)
  have U1 := hide ((unhide HU).kept g1 (.inl rfl))
  have V1 := hide ((unhide HV).kept g1)
  have T1 := hide ((unhide HT).kept g1)
  have y0 := (unhide F1).c0
  have y1 := (unhide F1).c1
  have CL := ok.literalsOf u a n w1 ha (unhide U1)
  clear g1 CC x0 x1 G0 F0 HU HV HT
  cases hl : a.all (litIn n)
  · rw [hl] at CL
    have C2 := hide CL
    have E := hide ((unhide HO).symm.trans (core_none (n := n) (LL := LL) (a := a) (by rw [hl, Bool.and_false])))
    clear CL hl V1 U1 HC
    go_wp2_with fail
    refine (unhide C2).mono ?_; rintro e w2 ⟨rfl, hw⟩; have hw' := hw.symm; clear hw; subst hw'
    go_wp2_with fail
    go_ret2
    rw [unhide E]
    exact ⟨_, rfl, made_sub (unhide G1) (app.made_nil _)⟩
  rw [hl] at CL
  have C2 := hide CL
  obtain ⟨m, rfl, h24, h120⟩ := cnf_parts (unhide HC)
  have EO : Hid (O = if cano (m : Int) LL a then none else some (coreG (m : Int) LL [] a)) := by
    have := unhide HO
    unfold coreO at this
    rw [unhide HC, hl] at this
    exact this.symm
  have HA : Hid (∀ x ∈ a, litIn (m : Int) x = true) := List.all_eq_true.1 hl
  have CS := hide (solverOf v m LL w1 (unhide T1) h24 h120 hn (lits_in (unhide HC)) (unhide V1))
  have ES : Hid (solveL (m : Int) LL a = left_ m LL a []) := solve_yes (unhide HC) hl
  clear CL hl HO V1 F1
  go_wp2_with fail
  refine (unhide C2).mono ?_; rintro e w2 ⟨rfl, hw⟩; have hw' := hw.symm; clear hw; subst hw'
  go_wp2_with fail
  refine (unhide CS).mono ?_; rintro e w2 ⟨c, s, rfl, h1, h2, g2⟩
  have H1 := hide h1
  have H2 := hide h2
  have G2 := hide (grown_trans (r := none) (unhide G1) g2)
  have U2 := hide ((unhide U1).kept g2 (.inl rfl))
  have T2 := hide ((unhide T1).kept g2)
  have CO := hide (bset.litsOf u a w2 ha (unhide U2))
  have CB := hide (callsIn_wide.1 (least m LL a s c 0 h2 (unhide HA) w2 h1 (unhide T2)))
  clear h1 h2 g2 y0 y1 CS C2 U1 T1 G1
  go_wp2_with fail
  refine (unhide CO).mono ?_; rintro e w3 ⟨rfl, hw⟩; have hw' := hw.symm; clear hw; subst hw'
  go_wp2_with fail
  refine (unhide CB).mono ?_
  rintro e w3 ⟨g3, ⟨hN, rfl⟩ | ⟨l, P, hN, hW, hh, rfl⟩⟩
  · have hca : cano (m : Int) LL a = false := by unfold cano; rw [unhide ES, hN]; rfl
    have E : Hid (O = some (coreG (m : Int) LL [] a)) := by
      have := unhide EO
      rw [hca] at this
      exact this
    have ST : Hid (Cor m LL a [] 0) := ⟨rfl, hca, fun x hx => (by cases hx), Nat.le_refl _⟩
    have G3 := hide (grown_trans (r := none) (unhide G2) g3)
    have S3 := hide ((unhide H1).kept g3)
    have T3 := hide ((unhide T2).kept g3)
    have U3 := hide ((unhide U2).kept g3 (.inl rfl))
    have gA := World.grownBy_alloc w3 (.cells #[] 3) none
    have M3 := hide (app.made_nil w3)
    have CX := hide (setsBehind u a _ ha (fun x hx => lit_ok (unhide HA x hx)) ((unhide U3).kept gA (.inl rfl)))
    have hOk := hide (fun x hx => lit_ok (unhide HA x hx))
    obtain ⟨ua, uc, rfl, hcell⟩ := unhide U3
    have HCE := hide hcell
    clear g3 hN hca EO ES CB CO G2 H1 T2 U2 gA hcell
    go_wp2_with fail
    refine (unhide CX).mono ?_
    rintro e w4 ⟨r4, rfl, m4⟩
    obtain ⟨ra, rc, rfl⟩ := row_form m4.1
    have M4 : Hid (Made w3 w4 (.slice (some ⟨w3.heap.size, 0, none⟩) 0 0) []) := hide ⟨(unhide M3).1.kept m4.2 (.inr (fun e => by cases e)), grown_trans (unhide M3).2 m4.2⟩
    have B4 : Hid (w4.ownsRow 0 59 1 (.slice ra (bh a 0).length rc) (bh a 0).length (words (bh a 0))) := css.own_mono m4.1 (Nat.zero_le _)
    rw [bh_len] at *
    clear m4 CX M3
    go_wp2_with fail
    go_loopw [9, 10, 45] (fun uv kv iv wr => ∃ (K : List Int) (k : Nat), k ≤ a.length ∧ kv = .int .u64 (setOf K : Int) ∧ iv = .int .i64 (k : Int) ∧ Hid (Cor m LL a K k) ∧ Hid (Made w3 wr uv K) ∧ Hid (wr.ownsRow 0 59 1 (.slice ra a.length rc) a.length (words (bh a 0)))) (fun _ _ iv _ => a.length - (intOf iv).toNat)
    case atStart => exact ⟨[], 0, Nat.zero_le _, rfl, rfl, ST, M4, B4⟩
    case round =>
      obtain ⟨K, k, hk, rfl, rfl, hcor, hmd, hbe⟩ := hrel
      clear ST M4 B4
      by_cases hlt : k < a.length
      · have hco := unhide hcor
        have hmd' := unhide hmd
        have hi' : (k : Int) < (a.length : Int) := by omega
        rcases unhide HCE with h | ⟨b, off, rfl, hbl, hcb⟩
        · rw [h] at hlt
          simp at hlt
        obtain ⟨g, cap, e, _⟩ := (unhide hbe).form (by omega)
        rw [Value.slice.injEq] at e
        obtain ⟨rfl, hz, rfl⟩ := e
        clear hz
        have c1 := hmd'.2.cell (hcb k hlt) (fun e => by cases e)
        have c2 : wr.cell? ⟨g, k, none⟩ = some (.int .u64 (setOf (a.drop (k + 1)) : Int)) := by
          rw [(unhide hbe).cellAt k (by omega), words_at (bh_at hlt), if_pos (Nat.zero_le _)]
        have hmem : a.getD k 0 ∈ a := by
          rw [List.getD_eq_getElem?_getD, List.getElem?_eq_getElem hlt]
          exact List.getElem_mem hlt
        have hli := unhide HA _ hmem
        have hok := lit_ok hli
        have hb := lits.okB_iff.1 hok
        have hb1 := hb.2.1
        have hb2 := hb.2.2
        have hin : ∀ x ∈ K ++ a.drop (k + 1), litIn (m : Int) x = true := by
          intro x hx
          rw [List.mem_append] at hx
          rcases hx with hx | hx
          · exact hco.li x hx
          · exact unhide HA x (List.mem_of_mem_drop hx)
        have es := setOf_app K (a.drop (k + 1))
        have EOR := hide (srt.orN_eq (setOf K) (setOf (a.drop (k + 1))) (setOf_lt _) (setOf_lt _))
        have CH := fun w' => bset.hasC (setOf K ||| setOf (a.drop (k + 1))) (a.getD k 0) w' (by rw [← es]; exact setOf_lt _) hok
        have hmm := has_mem (L := K ++ a.drop (k + 1)) hok (fun y hy => lit_ok (hin y hy))
        rw [es] at hmm
        cases hbit : (setOf K ||| setOf (a.drop (k + 1))).testBit (placeN (a.getD k 0))
        · rw [hbit] at CH
          have CH' := hide CH
          have CM := callsIn_wide.1 (least m LL (K ++ a.drop (k + 1)) s c 0 (unhide H2) hin wr ((unhide S3).kept hmd'.2) ((unhide T3).kept hmd'.2))
          rw [es] at CM
          unfold LeastE at CM
          have CM' := hide CM
          have KN : Hid (left_ m LL (K ++ a.drop (k + 1)) [] = none → Cor m LL a K (k + 1)) := fun hN => hco.off hlt (by unfold cano; rw [solve_yes (unhide HC) (List.all_eq_true.2 hin), hN]; rfl)
          have KY : Hid (∀ l, left_ m LL (K ++ a.drop (k + 1)) [] = some l → Cor m LL a (K ++ [a.getD k 0]) (k + 1)) := fun l hN => hco.on hlt hli (by unfold cano; rw [solve_yes (unhide HC) (List.all_eq_true.2 hin), hN]; rfl)
          have CW0 := fun w' => bset.withC (setOf K) (a.getD k 0) w' (setOf_lt _) hok
          have ew : withN (setOf K) (a.getD k 0) = setOf (K ++ [a.getD k 0]) := by rw [bset.setOf_snoc, hok]; rfl
          rw [ew] at CW0
          have CW := hide CW0
          have hKl : K.length ≤ 1048576 := by have := hco.le; omega
          have hbe' := unhide hbe
          clear hbit hmm CH CM CW0 ew es hco hin hb hok hli hmem hcb
          generalize left_ m LL (K ++ a.drop (k + 1)) [] = OO at *
          generalize setOf (a.drop (k + 1)) = Y at *
          generalize a.getD k 0 = y at *
          generalize hX2 : setOf (K ++ [y]) = X2 at *
          have HX2 := hide hX2
          clear hX2
          generalize hKK : setOf K = X at *
          have HKK := hide hKK
          clear hKK hbe' hmd'
          go_wp2_with fail
          rw [unhide EOR]
          refine (unhide CH' _).mono ?_; rintro e w5 ⟨rfl, hw⟩; have hw' := hw.symm; clear hw; subst hw'
          go_wp2_with fail
          refine (unhide CM').mono ?_
          rintro e w5 ⟨g5, ⟨hN, rfl⟩ | ⟨l, P, hN, hW, hh, rfl⟩⟩
          · have KK := hide (unhide KN hN)
            have M5 := hide (mup (unhide hmd) g5)
            have B5 := hide ((unhide hbe).kept g5 (.inr (fun e => by cases e)))
            clear g5 hN
            go_wp2_with fail
            go_roundw
            case rel => exact ⟨K, k + 1, by omega, by rw [unhide HKK], by go_num, unhide KK, unhide M5, unhide B5⟩
            case measure => simp [intOf]; omega
          · have KK := hide (unhide KY l hN)
            have gA := World.grownBy_alloc w5 (.cells #[.int .i64 y] 3) none
            have M5 := hide (mup (unhide hmd) (grown_trans g5 gA))
            have B5 := hide ((unhide hbe).kept (grown_trans (r := none) g5 gA) (.inr (fun e => by cases e)))
            have OB := hide (lq.one_own w5 y)
            have hKl2 : K.length + [y].length ≤ 4194304 := by simp; omega
            clear g5 hN hW hh gA KY KN CM' CH'
            go_wp2_with (at_builtin; refine app.appendI (unhide M5).2 (unhide M5).1 (unhide OB) hKl2 rfl _ _ rfl rfl rfl ?_)
            intro v6 w6 m6 g6
            have M6 := hide m6
            have B6 := hide ((unhide B5).kept g6 (row_ne (unhide B5) (unhide M5).1 (by decide)))
            clear m6 g6 B5 M5 OB
            go_wp2_with fail
            refine (unhide CW _).mono ?_; rintro e w7 ⟨rfl, hw⟩; have hw' := hw.symm; clear hw; subst hw'
            go_wp2_with fail
            go_roundw
            case rel => exact ⟨K ++ [y], k + 1, by omega, by rw [unhide HX2], by go_num, unhide KK, unhide M6, unhide B6⟩
            case measure => simp [intOf]; omega
        · rw [hbit] at CH
          have CH' := hide CH
          have KD := hide (hco.dup hlt hli (hmm.1 hbit))
          clear hbit hmm CH es hco hin hb hok hli hmem hcb hmd'
          generalize setOf (a.drop (k + 1)) = Y at *
          generalize a.getD k 0 = y at *
          generalize hKK : setOf K = X at *
          have HKK := hide hKK
          clear hKK
          go_wp2_with fail
          rw [unhide EOR]
          refine (unhide CH' _).mono ?_; rintro e w5 ⟨rfl, hw⟩; have hw' := hw.symm; clear hw; subst hw'
          go_wp2_with fail
          go_roundw
          case rel => exact ⟨K, k + 1, by omega, by rw [unhide HKK], by go_num, unhide KD, unhide hmd, unhide hbe⟩
          case measure => simp [intOf]; omega
      · have hi' : ¬ (k : Int) < (a.length : Int) := by omega
        have hk' : k = a.length := by omega
        have ER : Hid (O = some K) := by
          have := (unhide hcor).eq
          rw [hk', List.drop_length, coreG] at this
          rw [unhide E, this]
          rfl
        clear hk'
        go_wp2_with fail
        go_ret2
        rw [unhide ER]
        exact ⟨_, rfl, made_sub (unhide G3) (unhide hmd)⟩
  · have hca : cano (m : Int) LL a = true := by unfold cano; rw [unhide ES, hN]; rfl
    have E : Hid (O = none) := by
      have := unhide EO
      rw [hca] at this
      exact this
    have G3 := hide (grown_trans (r := none) (unhide G2) g3)
    clear g3 hN hW hh hca EO ES CB CO
    go_wp2_with fail
    go_ret2
    rw [unhide E]
    exact ⟨_, rfl, made_sub (unhide G3) (app.made_nil _)⟩
end Go.Proofs.YtapkckfgbimmcaaDoor.ks
namespace Go.Proofs.YtapkckfgbimmcaaDoor.ks
open Go.ChangeShapes Go.WideShapes Go.ChangeAt Go.RowKit
open Go.Proofs.YtapkckfgbimmcaaDoor.kd (SV Slv)
open Go.Proofs.YtapkckfgbimmcaaDoor.km (left_)
open Go.Proofs.YtapkckfgbimmcaaDoor.lq (solveL FromE lits_in solve_no made_sub made_nilD nil_one one_nil one_own)
open Go.Proofs.YtapkckfgbimmcaaDoor.as_ (tl litAt)
open Go.Proofs.YtapkckfgbimmcaaDoor.srt (Tab)
open Go.Proofs.YtapkckfgbimmcaaDoor.bset (setOf setOf_lt placeN)
open Go.Proofs.YtapkckfgbimmcaaDoor.css (Sls tot)
open Go.Proofs.YtapkckfgbimmcaaDoor.cf (Box)
open Go.Proofs.YtapkckfgbimmcaaDoor.ok (cnfB litIn)
open Go.Proofs.YtapkckfgbimmcaaDoor.tr (assignB bitB)
open Go.Proofs.YtapkckfgbimmcaaDoor.wo (Made)
open Go.Proofs.YtapkckfgbimmcaaDoor.sl (Sl ints hide unhide grown_refl grown_trans)
set_option linter.unusedVariables false
def nextL (n : Int) (LL : List (List Int)) (a : List Int) : Nat → Option (List Int)
  | 0 => none
  | k + 1 => if a.getD k 0 = 1 then nextL n LL a k else match solveL n LL ((tl 0 a).take k ++ [(k : Int) + 1]) with
    | some l => some l
    | none => nextL n LL a k
/-- what Next answers -/
def nextO (n : Int) (LL : List (List Int)) (a : List Int) : Option (List Int) := if assignB n LL a then nextL n LL a n.toNat else none
theorem next_one {n : Int} {LL : List (List Int)} {a : List Int} {k : Nat} (h : a.getD k 0 = 1) : nextL n LL a (k + 1) = nextL n LL a k := if_pos h
theorem next_some {n : Int} {LL : List (List Int)} {a l : List Int} {k : Nat} (h : ¬ a.getD k 0 = 1) (hs : solveL n LL ((tl 0 a).take k ++ [(k : Int) + 1]) = some l) : nextL n LL a (k + 1) = some l := by
  rw [nextL, if_neg h, hs]
theorem next_none {n : Int} {LL : List (List Int)} {a : List Int} {k : Nat} (h : ¬ a.getD k 0 = 1) (hs : solveL n LL ((tl 0 a).take k ++ [(k : Int) + 1]) = none) : nextL n LL a (k + 1) = nextL n LL a k := by
  rw [nextL, if_neg h, hs]
theorem next_len (n : Int) (LL : List (List Int)) (a : List Int) : ((nextO n LL a).getD []).length ≤ 24 := by
  have key : ∀ k, ((nextL n LL a k).getD []).length ≤ 24 := by
    intro k
    induction k with
    | zero => exact Nat.zero_le _
    | succ k ih =>
      by_cases h : a.getD k 0 = 1
      · rw [next_one h]; exact ih
      · cases hs : solveL n LL ((tl 0 a).take k ++ [(k : Int) + 1]) with
        | none => rw [next_none h hs]; exact ih
        | some l =>
          rw [next_some h hs]
          have := solve_len n LL ((tl 0 a).take k ++ [(k : Int) + 1])
          rw [hs] at this
          exact this
  unfold nextO
  split
  · exact key _
  · exact Nat.zero_le _
theorem as_parts {n : Int} {LL : List (List Int)} {a : List Int} (h : assignB n LL a = true) : cnfB n LL = true ∧ (a.length : Int) = n ∧ ∀ x ∈ a, x = 0 ∨ x = 1 := by
  unfold tr.assignB at h
  rw [Bool.and_eq_true, Bool.and_eq_true, decide_eq_true_iff, List.all_eq_true] at h
  refine ⟨h.1.1, h.1.2, fun x hx => ?_⟩
  have := h.2 x hx
  unfold tr.bitB at this
  simp at this
  omega
theorem in_pm {n j : Nat} (h24 : n ≤ 24) (h : j < n) : litIn (n : Int) ((j : Int) + 1) = true ∧ litIn (n : Int) (-(j : Int) - 1) = true := by
  have key : ∀ x : Int, (x = (j : Int) + 1 ∨ x = -(j : Int) - 1) → litIn (n : Int) x = true := by
    intro x hx
    have ho : lits.okB x = true := by rw [lits.okB_iff]; omega
    unfold ok.litIn
    rw [ho, Bool.true_and, decide_eq_true_iff]
    unfold lits.varI
    rw [ho, if_pos rfl]
    split <;> omega
  exact ⟨key _ (.inl rfl), key _ (.inr rfl)⟩
theorem tl_form (l : List Int) : ∀ k, ∀ x ∈ tl k l, ∃ j, k ≤ j ∧ j < k + l.length ∧ (x = (j : Int) + 1 ∨ x = -(j : Int) - 1) := by
  induction l with
  | nil => intro k x hx; cases hx
  | cons y l ih =>
    intro k x hx
    rw [as_.tl, List.mem_cons] at hx
    rcases hx with rfl | hx
    · refine ⟨k, Nat.le_refl _, by simp, ?_⟩
      unfold as_.litAt
      split
      · exact .inl rfl
      · exact .inr rfl
    · obtain ⟨j, h1, h2, h3⟩ := ih (k + 1) x hx
      exact ⟨j, by omega, by rw [List.length_cons]; omega, h3⟩
theorem tl_in {a : List Int} (h24 : a.length ≤ 24) {k : Nat} (hk : k < a.length) : ∀ x ∈ (tl 0 a).take k ++ [(k : Int) + 1], litIn (a.length : Int) x = true := by
  intro x hx
  rw [List.mem_append] at hx
  rcases hx with hx | hx
  · obtain ⟨j, _, h2, h3⟩ := tl_form a 0 x (List.mem_of_mem_take hx)
    have := in_pm (j := j) h24 (by omega)
    rcases h3 with rfl | rfl
    · exact this.1
    · exact this.2
  · simp at hx
    subst hx
    exact (in_pm h24 hk).1
theorem own_take {w : World} {lo g n cap k : Nat} {t : TypeId} {xs : List Value} (h : w.ownsRow lo t 1 (.slice (some ⟨g, 0, none⟩) n cap) n xs) (hk : k ≤ n) : w.ownsRow lo t 1 (.slice (some ⟨g, 0, none⟩) k cap) k (xs.take k) := by
  obtain ⟨hl, h2⟩ := h
  refine ⟨by rw [List.length_take]; omega, ?_⟩
  rcases h2 with ⟨e, _⟩ | ⟨g', cap', cur, e, hb, hg, hn, hm, hc, ht⟩
  · cases e
  · injection e with e1 e2 e3
    injection e1 with e1
    injection e1 with e1
    subst e1
    subst e3
    refine .inr ⟨g, cap, cur, rfl, hb, hg, by omega, hm, hc, ?_⟩
    rw [← ht, List.take_take]
    congr 1
    omega
theorem own_pre {w : World} {lo g cap k : Nat} {L : List Int} (h : w.ownsRow lo 3 1 (.slice (some ⟨g, 0, none⟩) L.length cap) L.length (ints L)) (hk : k ≤ L.length) : sl.Own lo w.heap.size w (.slice (some ⟨g, 0, none⟩) k cap) (L.take k) := by
  have h1 := own_take h hk
  have e : (ints L).take k = ints (L.take k) := by simp [sl.ints]
  rw [e] at h1
  have e2 : (L.take k).length = k := by rw [List.length_take]; omega
  exact ⟨by rw [e2]; exact h1, fun j hj => (h1.lt j hj).2⟩
set_option maxRecDepth 100000 in
set_option maxHeartbeats 8000000 in
theorem implNext (v u : Value) (n : Int) (LL : List (List Int)) (a : List Int) (w : World) (hT : Tab w) (hn : tot LL ≤ 1048576) (ha : a.length ≤ 1048576) (hv : Sls w v LL) (hu : Sl w u a) :
    Calls Tryd.prog 23 #[.agg #[.int .i64 n, v], u] w fun e w' => FromE w (nextO n LL a) e w' := by
  have g0 := World.grownBy_alloc w (.cells #[.int .i64 n, v] 26) none
  have C1 := tr.implAssignOk v u n LL a _ hn ha (hv.kept g0) (hu.kept g0 (.inl rfl))
  have F0 := hide (Box.new 26 w (.int .i64 n) v)
  have HU := hide (hu.kept g0 (.inl rfl))
  have HV := hide (hv.kept g0)
  have HT := hide (hT.kept g0)
  have G0 := hide g0
  have x0 := (unhide F0).c0
  have x1 := (unhide F0).c1
  clear g0 hv hu hT
  cases hc : assignB n LL a
  · rw [hc] at C1
    have CC := hide C1
    rw [show nextO n LL a = none by unfold nextO; rw [hc]; rfl]
    clear C1 hc HV HU
    go_enter Tryd.func23, Tryd.ntmps23
    go_wp2_with fail
    refine (unhide CC).mono ?_; rintro e w1 ⟨rfl, g1⟩
    have G1 := hide (grown_trans (r := none) (unhide G0) g1)
    clear g1 CC x0 x1
    go_wp2_with fail
    go_ret2
    exact ⟨_, rfl, made_sub (unhide G1) (app.made_nil _)⟩
  rw [hc] at C1
  have CC := hide C1
  obtain ⟨hcn, hal, hbt⟩ := as_parts hc
  obtain ⟨m, rfl, h24, h120⟩ := cnf_parts hcn
  have hlm : a.length = m := by omega
  have EO : nextO (m : Int) LL a = nextL (m : Int) LL a m := by unfold nextO; rw [hc]; rfl
  rw [EO]
  have HC := hide hcn
  have hB : Hid (lq.Bits m a) := ⟨hlm, hbt⟩
  subst hlm
  clear C1 hc hcn EO hal
  obtain ⟨ua, uc, rfl, hcell⟩ := unhide HU
  have HCE := hide hcell
  clear hcell
  go_enter Tryd.func23, Tryd.ntmps23
  go_wp2_with fail
  refine (unhide CC).mono ?_; rintro e w1 ⟨rfl, g1⟩
  have G1 := hide (grown_trans (r := none) (unhide G0) g1)
  have F1 := hide ((unhide F0).kept g1)
  have T1 := hide ((unhide HT).kept g1)
  have U1 := hide ((unhide HU).kept g1 (.inl rfl))
  have CS := hide (solverOf v a.length LL w1 (unhide T1) h24 h120 hn (lits_in (unhide HC)) ((unhide HV).kept g1))
  have y0 := (unhide F1).c0
  have y1 := (unhide F1).c1
  have GW := hide g1
  clear g1 CC x0 x1 G0 F0 HV HT
  go_wp2_with fail
  refine (unhide CS).mono ?_; rintro e w2 ⟨c, s, rfl, h1, h2, g2⟩
  have H1 := hide h1
  have H2 := hide h2
  have G2 := hide (grown_trans (r := none) (unhide G1) g2)
  have T2 := hide ((unhide T1).kept g2)
  have U2 := hide ((unhide U1).kept g2 (.inl rfl))
  have CT := hide (as_.trueLiterals _ a w2 ha (unhide U2))
  replace GW := hide (grown_trans (r := none) (unhide GW) g2)
  clear h1 h2 g2 y0 y1 CS G1 F1 T1 U1
  go_wp2_with fail
  refine (unhide CT).mono ?_; rintro e w3 ⟨u3, rfl, o3, g3⟩
  have O3 := hide o3
  have G3 := hide g3
  obtain ⟨pa, pc, rfl⟩ := row_form o3
  rw [as_.tl_len] at *
  clear o3 g3 CT HU
  go_wp2_with fail
  go_loopw [8] (fun i wr => ∃ (j : Int) (k : Nat), k ≤ a.length ∧ i = .int .i64 j ∧ j = (k : Int) - 1 ∧ Hid (nextL (a.length : Int) LL a a.length = nextL (a.length : Int) LL a k) ∧ Hid (w3.grownBy wr none)) (fun i _ => (intOf i + 1).toNat)
  case atStart => exact ⟨_, a.length, Nat.le_refl _, rfl, by go_num, rfl, grown_refl _⟩
  case round =>
    obtain ⟨j, k, hk, rfl, hj, hnx, hg⟩ := hrel
    cases k with
    | zero =>
      obtain rfl : j = -1 := by omega
      clear hj
      go_wp2_with fail
      go_ret2
      rw [unhide hnx]
      exact ⟨_, rfl, made_sub (grown_trans (unhide G2) (grown_trans (unhide G3) (unhide hg))) (app.made_nil _)⟩
    | succ k =>
      obtain rfl : j = (k : Int) := by omega
      clear hj
      have hlt : k < a.length := hk
      rcases unhide HCE with h | ⟨b, off, rfl, hbl, hcb⟩
      · rw [h] at hlt
        simp at hlt
      · have c1 := (grown_trans (r := none) (unhide GW) (grown_trans (r := none) (unhide G3) (unhide hg))).cell (hcb k hlt) (fun e => by cases e)
        have hi' : (k : Int) < (a.length : Int) := by omega
        obtain ⟨g, cap, e, _⟩ := (unhide O3).form (by omega)
        rw [Value.slice.injEq] at e
        obtain ⟨rfl, hz, rfl⟩ := e
        clear hz
        have hcap : a.length ≤ pc := by
          rcases (unhide O3).2 with ⟨e, _⟩ | ⟨g', cap', cur, e, _, _, hn', _⟩
          · cases e
          · rw [Value.slice.injEq] at e
            obtain ⟨_, _, rfl⟩ := e
            exact hn'
        have hcapi : (k : Int) ≤ (pc : Int) := by omega
        by_cases h1 : a.getD k 0 = 1
        · have N := hide ((unhide hnx).trans (next_one h1))
          rw [h1] at c1
          clear hcb h1 hnx
          go_wp2_with fail
          go_roundw
          case rel => exact ⟨_, k, by omega, rfl, by go_num, unhide N, unhide hg⟩
          case measure => simp [intOf]
        · have og := (unhide O3).kept (unhide hg) (.inr (fun e => by cases e))
          have op := own_pre (L := tl 0 a) (k := k) (by rw [as_.tl_len]; exact og) (by rw [as_.tl_len]; omega)
          have CL := hide (bset.litsOf _ _ wr (by rw [List.length_take]; omega) op.sl)
          have hpl := srt.place_pos k (by omega)
          have CW := fun w' => bset.withC (setOf ((tl 0 a).take k)) ((k : Int) + 1) w' (setOf_lt _) hpl.1
          have es : bset.withN (setOf ((tl 0 a).take k)) ((k : Int) + 1) = setOf ((tl 0 a).take k ++ [(k : Int) + 1]) := by
            rw [bset.setOf_snoc, hpl.1]
            rfl
          rw [es] at CW
          have CW' := hide CW
          have hin := tl_in h24 hlt
          have GG := hide (grown_trans (r := none) (unhide G3) (unhide hg))
          have CB := leastAssignment a.length LL _ s c (unhide H2) hin wr ((unhide H1).kept (unhide GG)) ((unhide T2).kept (unhide GG))
          rw [← solve_yes (unhide HC) (List.all_eq_true.2 hin)] at CB
          have NS := hide (next_some (n := (a.length : Int)) (LL := LL) (l := (solveL (a.length : Int) LL ((tl 0 a).take k ++ [(k : Int) + 1])).getD []) h1)
          have NN := hide (next_none (n := (a.length : Int)) (LL := LL) h1)
          unfold lq.FromE at CB
          have CB' := hide CB
          have hne : ¬ a.getD k 0 = 1 := h1
          clear CB CW es op og hcb h1 hin
          generalize a.getD k 0 = y at *
          generalize setOf ((tl 0 a).take k ++ [(k : Int) + 1]) = Z at *
          generalize setOf ((tl 0 a).take k) = Y at *
          generalize solveL (a.length : Int) LL ((tl 0 a).take k ++ [(k : Int) + 1]) = O at *
          go_wp2_with fail
          refine (unhide CL).mono ?_; rintro e w4 ⟨rfl, hw⟩; have hw' := hw.symm; clear hw; subst hw'
          go_wp2_with fail
          refine (unhide CW' _).mono ?_; rintro e w4 ⟨rfl, hw⟩; have hw' := hw.symm; clear hw; subst hw'
          go_wp2_with fail
          refine (unhide CB').mono ?_; rintro e w4 ⟨r, rfl, m4⟩
          have M4 := hide m4
          cases O with
          | none =>
            have N := hide ((unhide hnx).trans (unhide NN rfl))
            have G4 := hide (grown_trans (r := none) (unhide hg) m4.2)
            clear m4 NN NS CB' CW' CL
            go_wp2_with fail
            go_roundw
            case rel => exact ⟨_, k, by omega, rfl, by go_num, unhide N, unhide G4⟩
            case measure => simp [intOf]
          | some l =>
            have N := hide ((unhide hnx).trans (unhide NS rfl))
            clear m4 NN NS CB' CW' CL
            go_wp2_with fail
            go_ret2
            rw [unhide N]
            exact ⟨_, rfl, made_sub (grown_trans (unhide G2) (unhide GG)) (unhide M4)⟩
theorem wrapP {i : Nat} (h : i < 24) : IntKind.i64.wrap ((i : Int) + 1) = (i : Int) + 1 := by
  have key : ∀ j : Fin 24, IntKind.i64.wrap ((j.val : Int) + 1) = (j.val : Int) + 1 := by decide
  exact key ⟨i, h⟩
theorem callS {v : Value} {n : Int} {LL : List (List Int)} {B : List Int} {wr w3 : World} {v2 : Value} (hn : tot LL ≤ 1048576) (hB : B.length ≤ 1048576) (hv : Sls wr v LL) (m : Made wr w3 v2 B) :
    Calls Tryd.prog 39 #[.agg #[.int .i64 n, v], v2] w3 fun e w' => ∃ r, e = .returned (.tuple #[r, .bool (solveL n LL B).isSome]) ∧ Made w3 w' r ((solveL n LL B).getD []) :=
  lq.specSolveWith v v2 n LL B _ _ w3 hn hB (hv.kept m.2) (sl.Own.of m.1)
set_option maxRecDepth 100000 in
set_option maxHeartbeats 8000000 in
theorem specNext (v u : Value) (n : Int) (LL : List (List Int)) (a : List Int) (w : World) (hn : tot LL ≤ 1048576) (ha : a.length ≤ 1048576) (hv : Sls w v LL) (hu : Sl w u a) :
    Calls Tryd.prog 41 #[.agg #[.int .i64 n, v], u] w fun e w' => FromE w (nextO n LL a) e w' := by
  have g0 := World.grownBy_alloc w (.cells #[.int .i64 n, v] 26) none
  have C1 := tr.specAssignOk v u n LL a _ hn ha (hv.kept g0) (hu.kept g0 (.inl rfl))
  have F0 := hide (Box.new 26 w (.int .i64 n) v)
  have HU := hide (hu.kept g0 (.inl rfl))
  have HV := hide (hv.kept g0)
  have G0 := hide g0
  have x0 := (unhide F0).c0
  have x1 := (unhide F0).c1
  clear g0 hv hu
  cases hc : assignB n LL a
  · rw [hc] at C1
    have CC := hide C1
    rw [show nextO n LL a = none by unfold nextO; rw [hc]; rfl]
    clear C1 hc HV HU
    go_enter Tryd.func41, Tryd.ntmps41
    go_wp2_with fail
    refine (unhide CC).mono ?_; rintro e w1 ⟨rfl, g1⟩
    have G1 := hide (grown_trans (r := none) (unhide G0) g1)
    clear g1 CC x0 x1
    go_wp2_with fail
    go_ret2
    exact ⟨_, rfl, made_sub (unhide G1) (app.made_nil _)⟩
  rw [hc] at C1
  have CC := hide C1
  obtain ⟨hcn, hal, hbt⟩ := as_parts hc
  obtain ⟨m, rfl, h24, h120⟩ := cnf_parts hcn
  have hlm : a.length = m := by omega
  have EO : nextO (m : Int) LL a = nextL (m : Int) LL a m := by unfold nextO; rw [hc]; rfl
  rw [EO]
  subst hlm
  clear C1 hc hcn EO hal hbt
  obtain ⟨ua, uc, rfl, hcell⟩ := unhide HU
  have HCE := hide hcell
  clear hcell
  go_enter Tryd.func41, Tryd.ntmps41
  go_wp2_with fail
  refine (unhide CC).mono ?_; rintro e w2 ⟨rfl, g1⟩
  have G2 := hide (grown_trans (r := none) (unhide G0) g1)
  have F1 := hide ((unhide F0).kept g1)
  have U1 := hide ((unhide HU).kept g1 (.inl rfl))
  have V1 := hide ((unhide HV).kept g1)
  have CT := hide (as_.l03Lits _ a w2 ha (unhide U1))
  have GW := hide g1
  clear g1 CC x0 x1 G0 F0 HV
  go_wp2_with fail
  refine (unhide CT).mono ?_; rintro e w3 ⟨u3, rfl, o3, g3⟩
  have O3 := hide o3
  have G3 := hide g3
  have F3 := hide ((unhide F1).kept g3)
  have V3 := hide ((unhide V1).kept g3)
  obtain ⟨pa, pc, rfl⟩ := row_form o3
  rw [as_.tl_len] at *
  have y0 := (unhide F3).c0
  have y1 := (unhide F3).c1
  clear o3 g3 CT HU U1 F1 V1
  go_wp2_with fail
  clear y0 y1
  go_loopw [7] (fun i wr => ∃ (j : Int) (k : Nat), k ≤ a.length ∧ i = .int .i64 j ∧ j = (k : Int) - 1 ∧ Hid (nextL (a.length : Int) LL a a.length = nextL (a.length : Int) LL a k) ∧ Hid (w3.grownBy wr none)) (fun i _ => (intOf i + 1).toNat)
  case atStart => exact ⟨_, a.length, Nat.le_refl _, rfl, by go_num, rfl, grown_refl _⟩
  case round =>
    obtain ⟨j, k, hk, rfl, hj, hnx, hg⟩ := hrel
    cases k with
    | zero =>
      obtain rfl : j = -1 := by omega
      clear hj
      go_wp2_with fail
      go_ret2
      rw [unhide hnx]
      exact ⟨_, rfl, made_sub (grown_trans (unhide G2) (grown_trans (unhide G3) (unhide hg))) (app.made_nil _)⟩
    | succ k =>
      obtain rfl : j = (k : Int) := by omega
      clear hj
      have hlt : k < a.length := hk
      rcases unhide HCE with h | ⟨b, off, rfl, hbl, hcb⟩
      · rw [h] at hlt
        simp at hlt
      · have c1 := (grown_trans (r := none) (unhide GW) (grown_trans (r := none) (unhide G3) (unhide hg))).cell (hcb k hlt) (fun e => by cases e)
        have hi' : (k : Int) < (a.length : Int) := by omega
        obtain ⟨g, cap, e, _⟩ := (unhide O3).form (by omega)
        rw [Value.slice.injEq] at e
        obtain ⟨rfl, hz, rfl⟩ := e
        clear hz
        have hcap : a.length ≤ pc := by
          rcases (unhide O3).2 with ⟨e, _⟩ | ⟨g', cap', cur, e, _, _, hn', _⟩
          · cases e
          · rw [Value.slice.injEq] at e
            obtain ⟨_, _, rfl⟩ := e
            exact hn'
        have hcapi : (k : Int) ≤ (pc : Int) := by omega
        by_cases h1 : a.getD k 0 = 1
        · have N := hide ((unhide hnx).trans (next_one h1))
          rw [h1] at c1
          clear hcb h1 hnx
          go_wp2_with fail
          go_roundw
          case rel => exact ⟨_, k, by omega, rfl, by go_num, unhide N, unhide hg⟩
          case measure => simp [intOf]
        · have og := (unhide O3).kept (unhide hg) (.inr (fun e => by cases e))
          have U2 := hide (own_pre (L := tl 0 a) (k := k) (by rw [as_.tl_len]; exact og) (by rw [as_.tl_len]; omega))
          have F2 := hide ((unhide F3).kept (unhide hg))
          have V2 := hide ((unhide V3).kept (unhide hg))
          have GG := hide (grown_trans (r := none) (unhide G3) (unhide hg))
          have z0 := (unhide F2).c0
          have z1 := (unhide F2).c1
          have hBl : ((tl 0 a).take k).length = k := by rw [List.length_take, as_.tl_len]; omega
          have NS := hide (next_some (n := (a.length : Int)) (LL := LL) (l := (solveL (a.length : Int) LL ((tl 0 a).take k ++ [(k : Int) + 1])).getD []) h1)
          have NN := hide (next_none (n := (a.length : Int)) (LL := LL) h1)
          have hwr : IntKind.i64.wrap ((k : Int) + 1) = (k : Int) + 1 := wrapP (by omega)
          have CI := hide (fun v2 w4 (m : Made wr w4 v2 ((tl 0 a).take k ++ [IntKind.i64.wrap ((k : Int) + 1)])) => callS (n := (a.length : Int)) (B := (tl 0 a).take k ++ [(k : Int) + 1]) hn (by rw [List.length_append, hBl]; simp; omega) (unhide V2) (by rw [hwr] at m; exact m))
          clear hwr
          have hne0 : ¬ a.getD k 0 = 1 := h1
          have hlo := (unhide F2).lt
          clear og hcb h1
          generalize a.getD k 0 = y at *
          generalize solveL (a.length : Int) LL ((tl 0 a).take k ++ [(k : Int) + 1]) = O at *
          generalize hBB : (tl 0 a).take k = B at *
          have HBL := hide hBl
          have hab0 : B.length ≤ 24 := by omega
          clear hBl hBB
          go_wp2_with fail
          have hA1 : Hid (wr.grownBy (wr.alloc (.cells #[] 3)).drew none) := hide (grown_trans (World.grownBy_alloc _ _ none) (cf.grown_drew _ none))
          have ho1 := hide (made_nilD wr)
          have hu1 := hide ((unhide U2).kept (unhide hA1))
          have hA2 : Hid (wr.grownBy ((wr.alloc (.cells #[] 3)).alloc (.cells #[.int .i64 (IntKind.i64.wrap ((k : Int) + 1))] 3)).drew none) := hide (grown_trans (grown_trans (r := none) (World.grownBy_alloc _ _ none) (World.grownBy_alloc _ _ none)) (cf.grown_drew _ none))
          have ho2 := hide (nil_one wr (IntKind.i64.wrap ((k : Int) + 1)))
          have hu2 := hide ((unhide U2).kept (unhide hA2))
          have hA3 : Hid (wr.grownBy ((wr.alloc (.cells #[.int .i64 (IntKind.i64.wrap ((k : Int) + 1))] 3)).alloc (.cells #[] 3)).drew none) := hide (grown_trans (grown_trans (r := none) (World.grownBy_alloc _ _ none) (World.grownBy_alloc _ _ none)) (cf.grown_drew _ none))
          have ho3 := hide (one_nil wr (IntKind.i64.wrap ((k : Int) + 1)))
          have hu3 := hide ((unhide U2).kept (unhide hA3))
          have hne : ¬ w.heap.size = wr.heap.size := by omega
          have hne2 : ¬ w.heap.size = wr.heap.size + 1 := by omega
          have hab : B.length + 1 ≤ 4194304 := by omega
          have hab1 : 0 + B.length ≤ 4194304 := by omega
          go_region_law
            (first
              | (go_simp; go_at_call 39; refine (unhide CI _ _ (unhide M3)).mono ?_; rintro e w4 ⟨r, rfl, m4⟩; have M4 := hide (made_sub (unhide M3).2 m4); clear m4)
              | (refine app.stepI (A := []) (unhide hA1) (unhide ho1) (unhide hu1) hab1 (by rfl) _ _ (by rfl) (by rfl) (by rfl) ?_; intro v2 w2 m2 g2; have M2 : Hid (Made wr w2 v2 B) := hide m2; have kb0 := (((unhide F2).kept (unhide M2).2).kept (World.grownBy_alloc w2 (.cells #[.int .i64 (IntKind.i64.wrap ((k : Int) + 1))] 3) none)).c0; have kb1 := (((unhide F2).kept (unhide M2).2).kept (World.grownBy_alloc w2 (.cells #[.int .i64 (IntKind.i64.wrap ((k : Int) + 1))] 3) none)).c1; have k0 := ((unhide F2).kept (unhide M2).2).c0; have k1 := ((unhide F2).kept (unhide M2).2).c1; have hn2 : ¬ w.heap.size = w2.heap.size := Nat.ne_of_lt ((unhide F2).kept (unhide M2).2).lt; clear m2 g2)
              | (refine app.stepI (A := []) (unhide hA2) (unhide ho2).1 (unhide hu2) hab1 (by rfl) _ _ (by rfl) (by rfl) (by rfl) ?_; intro v2 w2 m2 g2; have M2 : Hid (Made wr w2 v2 B) := hide m2; have XB := hide ((unhide ho2).2 w2 g2); have k0 := ((unhide F2).kept (unhide M2).2).c0; have k1 := ((unhide F2).kept (unhide M2).2).c1; have hn2 : ¬ w.heap.size = w2.heap.size := Nat.ne_of_lt ((unhide F2).kept (unhide M2).2).lt; clear m2 g2)
              | (refine app.stepI (A := []) (unhide hA3) (unhide ho3).1 (unhide hu3) hab1 (by rfl) _ _ (by rfl) (by rfl) (by rfl) ?_; intro v2 w2 m2 g2; have M2 : Hid (Made wr w2 v2 B) := hide m2; have XB := hide ((unhide ho3).2 w2 g2); have k0 := ((unhide F2).kept (unhide M2).2).c0; have k1 := ((unhide F2).kept (unhide M2).2).c1; have hn2 : ¬ w.heap.size = w2.heap.size := Nat.ne_of_lt ((unhide F2).kept (unhide M2).2).lt; clear m2 g2)
              | (refine app.stepI (unhide M2).2 (unhide M2).1 (unhide XB) hab (by rfl) _ _ (by rfl) (by rfl) (by rfl) ?_; intro v3 w3 m3 g3; have M3 := hide m3; have j0 := ((unhide F2).kept m3.2).c0; have j1 := ((unhide F2).kept m3.2).c1; clear m3 g3)
              | (refine app.stepI (grown_trans (unhide M2).2 (World.grownBy_alloc w2 (.cells #[.int .i64 (IntKind.i64.wrap ((k : Int) + 1))] 3) none)) ((unhide M2).1.alloc _) (one_own w2 (IntKind.i64.wrap ((k : Int) + 1))) hab (by rfl) _ _ (by rfl) (by rfl) (by rfl) ?_; intro v3 w3 m3 g3; have M3 := hide m3; have j0 := ((unhide F2).kept m3.2).c0; have j1 := ((unhide F2).kept m3.2).c1; clear m3 g3))
          all_goals
            cases O with
            | none =>
              have N := hide ((unhide hnx).trans (unhide NN rfl))
              have G4 := hide (grown_trans (r := none) (unhide hg) (unhide M4).2)
              clear NN NS CI
              go_wp2_with fail
              go_roundw
              case rel => exact ⟨_, k, by omega, rfl, by go_num, unhide N, unhide G4⟩
              case measure => simp [intOf]
            | some l =>
              have N := hide ((unhide hnx).trans (unhide NS rfl))
              clear NN NS CI
              go_wp2_with fail
              go_ret2
              rw [unhide N]
              exact ⟨_, rfl, made_sub (grown_trans (unhide G2) (unhide GG)) (unhide M4)⟩
theorem bothN (n : Int) (LL : List (List Int)) (L : List Int) (hn : tot LL ≤ 1048576) (hL : L.length ≤ 1048576) : ∃ (R : List Int) (b : Bool), R.length ≤ 1048576 ∧
    (∀ v u (lo hi : Nat) w, Sls w v LL → sl.Own lo hi w u L → Calls Tryd.prog 41 #[.agg #[.int .i64 n, v], u] w fun e w' => ∃ r, e = .returned (.tuple #[r, .bool b]) ∧ w'.ownsRow w.heap.size 3 1 r R.length (ints R) ∧ w.grownBy w' none) ∧
    (∀ v u (lo hi : Nat) w, srt.Tab w → Sls w v LL → sl.Own lo hi w u L → Calls Tryd.prog 23 #[.agg #[.int .i64 n, v], u] w fun e w' => ∃ r, e = .returned (.tuple #[r, .bool b]) ∧ w'.ownsRow w.heap.size 3 1 r R.length (ints R) ∧ w.grownBy w' none) :=
  ⟨_, _, Nat.le_trans (next_len n LL L) (by omega), fun v u lo hi w h k => specNext v u n LL L w hn hL h k.sl, fun v u lo hi w t h k => implNext v u n LL L w t hn hL h k.sl⟩
end Go.Proofs.YtapkckfgbimmcaaDoor.ks
namespace Go.Proofs.YtapkckfgbimmcaaDoor.ks
open Go.ChangeShapes Go.WideShapes Go.ChangeAt Go.RowKit
open Go.Proofs.YtapkckfgbimmcaaDoor.lq (solveL FromE lits_in solve_no made_sub made_nilD)
open Go.Proofs.YtapkckfgbimmcaaDoor.css (Sls tot)
open Go.Proofs.YtapkckfgbimmcaaDoor.cf (Box)
open Go.Proofs.YtapkckfgbimmcaaDoor.ok (cnfB litIn)
open Go.Proofs.YtapkckfgbimmcaaDoor.wo (Made)
open Go.Proofs.YtapkckfgbimmcaaDoor.sl (Sl ints hide unhide grown_refl grown_trans)
set_option linter.unusedVariables false
/-- numbers that lie anywhere, behind numbers of the call's own -/
theorem wpT {o : Oper} {a : Act} {K : Act → World → Prop} {Q : Exit → Act → World → Prop} {w wr : World} {va : Value} {A B : List Int} {ad : Addr} {cap : Nat}
    (hg : w.grownBy wr none) (hA : wr.ownsRow w.heap.size 3 1 va A.length (ints A)) (hB : ∀ j, j < B.length → wr.cell? (ad.add j) = some (.int .i64 (B.getD j 0))) (hl : A.length + B.length ≤ 4194304) (s x : Operand)
    (ho : o.op = .call { callee := .builtin .append, args := #[s, x], argTypes := #[28, 28] }) (hs : a.eval s = va) (hx : a.eval x = .slice (some ad) B.length cap)
    (h : ∀ v' w1, Made w w1 v' (A ++ B) → wr.grownBy w1 va.ownBlock → K (a.put o.dst v') w1) : o.wp Tryd.prog a wr K Q := by
  obtain ⟨i0, hi, hz0, hz1, hz2⟩ := info_parts sl.info3
  have hsz := hg.size
  refine wp_append_own _ s x 28 ho w.heap.size 3 i0 (.int .i64 0) 1 8 Tryd.underlying28 hi hz0 hz1 hz2 rfl (by decide) va A.length (ints A) hs hA ad B.length cap (ints B) hx (by rw [sl.ints_length]; omega) ?_ ?_ ?_ ?_ ?_ ?_
  · intro j u hj
    have hjl : j < B.length := by
      have := (List.getElem?_eq_some_iff.1 hj).1
      rwa [sl.ints_length] at this
    rw [hB j hjl, ← hj]
    simp [sl.ints, hjl]
  · exact ints_oneCell .i64 B
  · unfold maxLen
    omega
  · omega
  · exact hsz
  · intro v' w1 hown' hgrow _
    refine h v' w1 ⟨?_, ⟨hgrow.os.trans hg.os, hgrow.tape.trans hg.tape, hgrow.output.trans hg.output, Nat.le_trans hsz hgrow.size, fun k hk _ => ?_⟩⟩ hgrow
    · rw [List.length_append, app.ints_append]
      exact hown'
    · rw [hgrow.block k (by omega) (fun e => by have := (hA.lt k e.symm).1; omega)]
      exact hg.block k hk (fun e => by cases e)
theorem stepT {ops : Array Oper} {E : Prop} {o : Oper} {a : Act} {K : Act → World → Prop} {Q : Exit → Act → World → Prop} {w wr : World} {va : Value} {A B : List Int} {ad : Addr} {n cap : Nat}
    (hg : w.grownBy wr none) (hA : wr.ownsRow w.heap.size 3 1 va A.length (ints A)) (hB : ∀ j, j < B.length → wr.cell? (ad.add j) = some (.int .i64 (B.getD j 0))) (hl : A.length + B.length ≤ 4194304) (hn : n = B.length) (hgd : o.guard = none) (s x : Operand)
    (ho : o.op = .call { callee := .builtin .append, args := #[s, x], argTypes := #[28, 28] }) (hs : a.eval s = va) (hx : a.eval x = .slice (some ad) n cap)
    (h : ∀ v' w1, Made w w1 v' (A ++ B) → wr.grownBy w1 va.ownBlock → K (a.put o.dst v') w1) : if Region.wanted o (yielded ops a.tmps) = true then Oper.wp Tryd.prog o a wr K Q else E := by
  rw [if_pos (by simp [Region.wanted, hgd])]
  subst hn
  exact wpT hg hA hB hl s x ho hs hx h
def lenOf : Value → Nat
  | .slice _ n _ => n
  | _ => 0
theorem core_step {n : Int} {LL : List (List Int)} {M : List Int} {k : Nat} (hk : k < M.length) : coreG n LL (M.take k) (M.drop k) = if cano n LL (M.take k ++ M.drop (k + 1)) then coreG n LL (M.take (k + 1)) (M.drop (k + 1)) else coreG n LL ((M.take k ++ M.drop (k + 1)).take k) ((M.take k ++ M.drop (k + 1)).drop k) := by
  have hl : (M.take k).length = k := by rw [List.length_take]; omega
  have e1 : (M.take k ++ M.drop (k + 1)).take k = M.take k := by rw [List.take_append_of_le_length (by omega), List.take_of_length_le (by omega)]
  have e2 : (M.take k ++ M.drop (k + 1)).drop k = M.drop (k + 1) := by rw [List.drop_append_of_le_length (by omega), List.drop_of_length_le (by omega), List.nil_append]
  rw [e1, e2, List.drop_eq_getElem_cons hk, coreG, List.take_succ_eq_append_getElem hk]
set_option maxRecDepth 100000 in
set_option maxHeartbeats 8000000 in
theorem specCore (v u : Value) (n : Int) (LL : List (List Int)) (a : List Int) (lo hi : Nat) (w : World) (hn : tot LL ≤ 1048576) (ha : a.length ≤ 1048576) (hv : Sls w v LL) (hu : sl.Own lo hi w u a) :
    Calls Tryd.prog 27 #[.agg #[.int .i64 n, v], u] w fun e w' => FromE w (coreO n LL a) e w' := by
  obtain ⟨O, hO⟩ : ∃ O, coreO n LL a = O := ⟨_, rfl⟩
  rw [hO]
  have HO := hide hO
  clear hO
  have g0 := World.grownBy_alloc w (.cells #[.int .i64 n, v] 26) none
  have C1 := ok.specCnfOk v n LL _ hn (hv.kept g0)
  have F0 := hide (Box.new 26 w (.int .i64 n) v)
  have HU := hide (hu.kept g0)
  have HV := hide (hv.kept g0)
  have G0 := hide g0
  obtain ⟨ua, uc, rfl, _⟩ := hu.sl
  have x0 := (unhide F0).c0
  have x1 := (unhide F0).c1
  clear g0 hv hu
  cases hc : cnfB n LL
  · rw [hc] at C1
    have CC := hide C1
    have E := hide ((unhide HO).symm.trans (core_none (n := n) (LL := LL) (a := a) (by rw [hc]; rfl)))
    clear C1 hc HV HU
    go_enter Tryd.func27, Tryd.ntmps27
    go_wp2_with fail
    refine (unhide CC).mono ?_; rintro e w1 ⟨rfl, g1⟩
    have G1 := hide (grown_trans (r := none) (unhide G0) g1)
    clear g1 CC x0 x1
    go_wp2_with fail
    go_ret2
    rw [unhide E]
    exact ⟨_, rfl, made_sub (unhide G1) (app.made_nil _)⟩
  rw [hc] at C1
  have CC := hide C1
  have HC := hide hc
  clear C1 hc
  go_enter Tryd.func27, Tryd.ntmps27
  go_wp2_with fail
  refine (unhide CC).mono ?_; rintro e w1 ⟨rfl, g1⟩
  have G1 := hide (grown_trans (r := none) (unhide G0) g1)
  have F1 := hide ((unhide F0).kept g1)
  have U1 := hide ((unhide HU).kept g1)
  have V1 := hide ((unhide HV).kept g1)
  have y0 := (unhide F1).c0
  have y1 := (unhide F1).c1
  have CL := l4.l04Lits v (.slice ua a.length uc) n a w1 ha (unhide U1).sl
  clear g1 CC x0 x1 G0 F0 HU HV
  cases hl : a.all (litIn n)
  · rw [hl] at CL
    have C2 := hide CL
    have E := hide ((unhide HO).symm.trans (core_none (n := n) (LL := LL) (a := a) (by rw [hl, Bool.and_false])))
    clear CL hl V1 U1 HC
    go_wp2_with fail
    refine (unhide C2).mono ?_; rintro e w2 ⟨rfl, g2⟩
    have G2 := hide (grown_trans (r := none) (unhide G1) g2)
    clear g2 C2 y0 y1
    go_wp2_with fail
    go_ret2
    rw [unhide E]
    exact ⟨_, rfl, made_sub (unhide G2) (app.made_nil _)⟩
  rw [hl] at CL
  have C2 := hide CL
  have EO : Hid (O = if cano n LL a then none else some (coreG n LL [] a)) := by
    have := unhide HO
    unfold coreO at this
    rw [unhide HC, hl] at this
    exact this.symm
  clear CL hl HO
  go_wp2_with fail
  refine (unhide C2).mono ?_; rintro e w2 ⟨rfl, g2⟩
  have G2 := hide (grown_trans (r := none) (unhide G1) g2)
  have F2 := hide ((unhide F1).kept g2)
  have U2 := hide ((unhide U1).kept g2)
  have V2 := hide ((unhide V1).kept g2)
  have CS := lq.specSolveWith v (.slice ua a.length uc) n LL a _ _ w2 hn ha (unhide V2) (unhide U2)
  clear g2 C2 y0 y1 G1 F1 U1 V1
  have z0 := (unhide F2).c0
  have z1 := (unhide F2).c1
  unfold lq.FromE at CS
  unfold cano at EO
  generalize (solveL n LL a).getD [] = RS at *
  cases hs : (solveL n LL a).isSome
  · rw [hs] at CS EO
    have CS' := hide CS
    have E : Hid (O = some (coreG n LL [] a)) := unhide EO
    clear CS hs EO
    go_wp2_with fail
    refine (unhide CS').mono ?_; rintro e w3 ⟨r3, rfl, m3⟩
    have G3 := hide (grown_trans (r := none) (unhide G2) m3.2)
    have F3 := hide ((unhide F2).kept m3.2)
    have V3 := hide ((unhide V2).kept m3.2)
    have gA := World.grownBy_alloc w3 (.cells #[] 3) none
    have U3 := hide (((unhide U2).kept m3.2).kept gA)
    have M3 := hide (app.made_nil w3)
    have hab1 : ([] : List Int).length + a.length ≤ 4194304 := by simp; omega
    clear m3 z0 z1 CS' gA G2 U2 V2 F2
    go_wp2_with (at_builtin; refine app.appendI (A := []) (unhide M3).2 (unhide M3).1 (unhide U3) hab1 rfl _ _ rfl rfl rfl ?_)
    intro v4 w4 m4 _
    have M4 : Hid (Made w3 w4 v4 a) := m4
    clear m4 M3 U3
    go_wp2_with fail
    go_loopw [8, 9] (fun uv iv wr => ∃ (M : List Int) (k : Nat), k ≤ M.length ∧ M.length ≤ a.length ∧ iv = .int .i64 (k : Int) ∧ Hid (coreG n LL [] a = coreG n LL (M.take k) (M.drop k)) ∧ Made w3 wr uv M) (fun uv iv _ => lenOf uv - (intOf iv).toNat)
    case atStart => exact ⟨a, 0, Nat.zero_le _, Nat.le_refl _, rfl, rfl, unhide M4⟩
    case round =>
      obtain ⟨M, k, hk, hMa, rfl, hcore, hmd⟩ := hrel
      clear M4
      obtain ⟨ma, mc, rfl⟩ := row_form hmd.1
      by_cases hlt : k < M.length
      · obtain ⟨g, cap, e, _⟩ := hmd.1.form (by omega)
        rw [Value.slice.injEq] at e
        obtain ⟨rfl, hz, rfl⟩ := e
        clear hz
        have hcap : M.length ≤ mc := by
          rcases hmd.1.2 with ⟨e, _⟩ | ⟨g', cap', cur, e, _, _, hn', _⟩
          · cases e
          · rw [Value.slice.injEq] at e
            obtain ⟨_, _, rfl⟩ := e
            exact hn'
        have hcapi : (k : Int) ≤ (mc : Int) := by omega
        have hi' : (k : Int) < (M.length : Int) := by omega
        have hi1 : (k : Int) + 1 ≤ (M.length : Int) := by omega
        have cst := core_step (n := n) (LL := LL) hlt
        have U5 := hide (own_pre (L := M) (k := k) hmd.1 (by omega))
        have HM := hide hmd
        have hA1 : Hid (wr.grownBy (wr.alloc (.cells #[] 3)).drew none) := hide (grown_trans (World.grownBy_alloc _ _ none) (cf.grown_drew _ none))
        have ho1 := hide (made_nilD wr)
        have hu1 := hide ((unhide U5).kept (unhide hA1))
        have hTl : (M.take k).length = k := by rw [List.length_take]; omega
        have hDl : (M.drop (k + 1)).length = M.length - (k + 1) := by rw [List.length_drop]
        have hab1 : Hid (([] : List Int).length + (M.take k).length ≤ 4194304) := by show _ ≤ _; simp; omega
        have hab2 : Hid ((M.take k).length + (M.drop (k + 1)).length ≤ 4194304) := by show _ ≤ _; omega
        have HB : Hid (∀ w2, wr.grownBy w2 none → ∀ j, j < (M.drop (k + 1)).length → w2.cell? ⟨g, k + 1 + j, none⟩ = some (.int .i64 ((M.drop (k + 1)).getD j 0))) := by
          intro w2 g2 j hj
          have := hmd.1.cellAt (k + 1 + j) (by omega)
          refine g2.cell (this.trans ?_) (fun e => by cases e)
          simp [sl.ints, show k + 1 + j < M.length by omega]
        have HNL : Hid (M.length - (k + 1) = (M.drop (k + 1)).length) := hDl.symm
        have HTD := hide (And.intro hTl hDl)
        have hcap2 : (k : Int) + 1 ≤ (mc : Int) := by omega
        clear hTl hDl hmd
        have hw1 : IntKind.i64.wrap ((k : Int) + 1) = (k : Int) + 1 := by rw [IntKind.wrap_i64]; omega
        have hw2 : (0 : Int) ≤ (k : Int) + 1 := by omega
        have hw4 : (k : Int) ≤ (k : Int) + 1 := by omega
        have hw3 : ((k : Int) + 1).toNat = k + 1 := by omega
        have CSS := hide (fun v2 w6 (m6 : Made wr w6 v2 (M.take k ++ M.drop (k + 1))) => callS (n := n) hn (by rw [List.length_append, (unhide HTD).1, (unhide HTD).2]; omega) ((unhide V3).kept (unhide HM).2) m6)
        obtain ⟨bb, hbb⟩ : ∃ bb, cano n LL (M.take k ++ M.drop (k + 1)) = bb := ⟨_, rfl⟩
        rw [hbb] at cst
        have EC0 : Hid (bb = false → coreG n LL (M.take k) (M.drop k) = coreG n LL ((M.take k ++ M.drop (k + 1)).take k) ((M.take k ++ M.drop (k + 1)).drop k)) := fun e => by rw [cst, e]; rfl
        have EC1 : Hid (bb = true → coreG n LL (M.take k) (M.drop k) = coreG n LL (M.take (k + 1)) (M.drop (k + 1))) := fun e => by rw [cst, e]; rfl
        unfold cano at hbb
        rw [hbb] at CSS
        clear hbb cst
        by_cases hkc : mc = k + 1
        · have HBX0 : ∀ w5, wr.grownBy w5 none → ∀ j, j < (M.drop (k + 1)).length → w5.cell? ((⟨g, 0, none⟩ : Addr).add j) = some (.int .i64 ((M.drop (k + 1)).getD j 0)) := fun w5 g5 j hj => by have := (unhide HTD).2; omega
          have HN0 : Hid (0 = (M.drop (k + 1)).length) := by show 0 = _; have := (unhide HTD).2; omega
          have HBX := hide HBX0
          clear HBX0
          subst hkc
          go_wp2_with fail
          go_region_law
            (first
              | (refine app.stepI (A := []) (unhide hA1) (unhide ho1) (unhide hu1) (unhide hab1) (by rfl) _ _ (by rfl) (by rfl) (by rfl) ?_; intro v5 w5 m5 g5; have M5 : Hid (Made wr w5 v5 (M.take k)) := hide m5; have B5 := hide (unhide HBX w5 m5.2); clear m5 g5)
              | (refine stepT (unhide M5).2 (unhide M5).1 (unhide B5) (unhide hab2) (unhide HN0) (by rfl) _ _ (by rfl) (by rfl) (by rfl) ?_; intro v6 w6 m6 g6; have M6 := hide m6; clear m6 g6))
          all_goals
            have F6 := hide ((unhide F3).kept (grown_trans (unhide HM).2 (unhide M6).2))
            have z0 := (unhide F6).c0
            have z1 := (unhide F6).c1
            have CI := hide (unhide CSS _ _ (unhide M6))
            clear hA1 ho1 hu1 M5 B5
            go_wp2_with fail
            refine (unhide CI).mono ?_
            rintro e w7 ⟨r7, rfl, m7⟩
            have M7 := hide (mup (unhide HM) (grown_trans (unhide M6).2 m7.2))
            have N7 := hide (made_sub (unhide HM).2 (mup (unhide M6) m7.2))
            clear m7
            cases bb
            · have EN := hide ((unhide hcore).trans (unhide EC0 rfl))
              go_wp2_with fail
              go_roundw
              case rel => exact ⟨M.take k ++ M.drop (k + 1), k, by rw [List.length_append, (unhide HTD).1]; omega, by rw [List.length_append, (unhide HTD).1, (unhide HTD).2]; omega, rfl, unhide EN, unhide N7⟩
              case measure =>
                obtain ⟨ra, rc, e⟩ := row_form (unhide N7).1
                rw [e, List.length_append, (unhide HTD).1, (unhide HTD).2]
                simp [lenOf, intOf]
                omega
            · have EN := hide ((unhide hcore).trans (unhide EC1 rfl))
              go_wp2_with fail
              go_roundw
              case rel => exact ⟨M, k + 1, by omega, hMa, by go_num, unhide EN, unhide M7⟩
              case measure => simp [lenOf, intOf]; omega
        · have HBX0 : ∀ w5, wr.grownBy w5 none → ∀ j, j < (M.drop (k + 1)).length → w5.cell? ((⟨g, k + 1, none⟩ : Addr).add j) = some (.int .i64 ((M.drop (k + 1)).getD j 0)) := fun w5 g5 j hj => by
            rw [Addr.add_mid]
            exact unhide HB w5 g5 j hj
          have HBX := hide HBX0
          clear HBX0
          go_wp2_with fail
          go_region_law
            (first
              | (refine app.stepI (A := []) (unhide hA1) (unhide ho1) (unhide hu1) (unhide hab1) (by rfl) _ _ (by rfl) (by rfl) (by rfl) ?_; intro v5 w5 m5 g5; have M5 : Hid (Made wr w5 v5 (M.take k)) := hide m5; have B5 := hide (unhide HBX w5 m5.2); clear m5 g5)
              | (refine stepT (unhide M5).2 (unhide M5).1 (unhide B5) (unhide hab2) (unhide HNL) (by rfl) _ _ (by rfl) (by rfl) (by rfl) ?_; intro v6 w6 m6 g6; have M6 := hide m6; clear m6 g6))
          all_goals
            have F6 := hide ((unhide F3).kept (grown_trans (unhide HM).2 (unhide M6).2))
            have z0 := (unhide F6).c0
            have z1 := (unhide F6).c1
            have CI := hide (unhide CSS _ _ (unhide M6))
            clear hA1 ho1 hu1 M5 B5
            go_wp2_with fail
            refine (unhide CI).mono ?_
            rintro e w7 ⟨r7, rfl, m7⟩
            have M7 := hide (mup (unhide HM) (grown_trans (unhide M6).2 m7.2))
            have N7 := hide (made_sub (unhide HM).2 (mup (unhide M6) m7.2))
            clear m7
            cases bb
            · have EN := hide ((unhide hcore).trans (unhide EC0 rfl))
              go_wp2_with fail
              go_roundw
              case rel => exact ⟨M.take k ++ M.drop (k + 1), k, by rw [List.length_append, (unhide HTD).1]; omega, by rw [List.length_append, (unhide HTD).1, (unhide HTD).2]; omega, rfl, unhide EN, unhide N7⟩
              case measure =>
                obtain ⟨ra, rc, e⟩ := row_form (unhide N7).1
                rw [e, List.length_append, (unhide HTD).1, (unhide HTD).2]
                simp [lenOf, intOf]
                omega
            · have EN := hide ((unhide hcore).trans (unhide EC1 rfl))
              go_wp2_with fail
              go_roundw
              case rel => exact ⟨M, k + 1, by omega, hMa, by go_num, unhide EN, unhide M7⟩
              case measure => simp [lenOf, intOf]; omega
      · have hi' : ¬ (k : Int) < (M.length : Int) := by omega
        have ER : Hid (O = some M) := by
          have hkM : k = M.length := by omega
          have := unhide hcore
          rw [hkM, List.drop_length, List.take_length, coreG] at this
          show O = some M
          rw [unhide E, this]
        have HM := hide hmd
        clear hmd
        go_wp2_with fail
        go_ret2
        rw [unhide ER]
        exact ⟨_, rfl, made_sub (unhide G3) (unhide HM)⟩
  · rw [hs] at CS EO
    have CS' := hide CS
    have E : Hid (O = none) := unhide EO
    clear CS hs EO
    go_wp2_with fail
    refine (unhide CS').mono ?_; rintro e w3 ⟨r3, rfl, m3⟩
    have G3 := hide (grown_trans (r := none) (unhide G2) m3.2)
    clear m3 z0 z1 CS'
    go_wp2_with fail
    go_ret2
    rw [unhide E]
    exact ⟨_, rfl, made_sub (unhide G3) (app.made_nil _)⟩
theorem bothC (n : Int) (LL : List (List Int)) (L : List Int) (hn : tot LL ≤ 1048576) (hL : L.length ≤ 1048576) : ∃ (R : List Int) (b : Bool), R.length ≤ 1048576 ∧
    (∀ v u (lo hi : Nat) w, Sls w v LL → sl.Own lo hi w u L → Calls Tryd.prog 27 #[.agg #[.int .i64 n, v], u] w fun e w' => ∃ r, e = .returned (.tuple #[r, .bool b]) ∧ w'.ownsRow w.heap.size 3 1 r R.length (ints R) ∧ w.grownBy w' none) ∧
    (∀ v u (lo hi : Nat) w, srt.Tab w → Sls w v LL → sl.Own lo hi w u L → Calls Tryd.prog 26 #[.agg #[.int .i64 n, v], u] w fun e w' => ∃ r, e = .returned (.tuple #[r, .bool b]) ∧ w'.ownsRow w.heap.size 3 1 r R.length (ints R) ∧ w.grownBy w' none) :=
  ⟨_, _, Nat.le_trans (core_len n LL L) hL, fun v u lo hi w h k => specCore v u n LL L lo hi w hn hL h k, fun v u lo hi w t h k => implCore v u n LL L w t hn hL h k.sl⟩
end Go.Proofs.YtapkckfgbimmcaaDoor.ks
namespace Go.Proofs.YtapkckfgbimmcaaDoor.ks
open Go.Proofs.YtapkckfgbimmcaaDoor.lq (Bits holds solveL lst lst_none lst_some)
open Go.Proofs.YtapkckfgbimmcaaDoor.ok (cnfB litIn)
open Go.Proofs.YtapkckfgbimmcaaDoor.css (Sls tot)
open Go.Proofs.YtapkckfgbimmcaaDoor.sl (grown_trans)
set_option linter.unusedVariables false
theorem cano_mono {n : Int} {LL : List (List Int)} {A B : List Int} (h : ∀ x ∈ B, x ∈ A) (hc : cano n LL A = true) : cano n LL B = true := by
  unfold cano lq.solveL at *
  cases hg : cnfB n LL && A.all (litIn n) with
  | false => rw [hg] at hc; cases hc
  | true =>
    rw [hg] at hc
    rw [Bool.and_eq_true, List.all_eq_true] at hg
    have hb : (cnfB n LL && B.all (litIn n)) = true := by
      rw [Bool.and_eq_true, List.all_eq_true]
      exact ⟨hg.1, fun x hx => hg.2 x (h x hx)⟩
    rw [hb]
    show (lst n.toNat (holds LL B)).isSome = true
    have hc' : (lst n.toNat (holds LL A)).isSome = true := hc
    obtain ⟨l, hl⟩ := Option.isSome_iff_exists.1 hc'
    have q := lst_some hl
    cases e : lst n.toNat (holds LL B) with
    | some _ => rfl
    | none =>
      have z := lst_none.1 e l q.1
      have q2 := q.2
      unfold lq.holds at z q2
      rw [Bool.and_eq_true, List.all_eq_true] at q2
      rw [q2.1, Bool.true_and, List.all_eq_false] at z
      obtain ⟨x, hx, hz⟩ := z
      exact absurd (q2.2 x (h x hx)) hz
/-- a list without its place i -/
def wo1 (c : List Int) (i : Nat) : List Int := c.take i ++ c.drop (i + 1)
theorem wo1_app {K R : List Int} {i : Nat} (h : i < K.length) : wo1 (K ++ R) i = K.take i ++ (K.drop (i + 1) ++ R) := by
  unfold wo1
  rw [List.take_append_of_le_length (by omega), List.drop_append_of_le_length (by omega)]
theorem wo1_last {K R : List Int} {x : Int} : wo1 (K ++ x :: R) K.length = K ++ R := by
  unfold wo1
  rw [List.take_append_of_le_length (Nat.le_refl _), List.take_of_length_le (Nat.le_refl _)]
  congr 1
  rw [show K ++ x :: R = (K ++ [x]) ++ R by simp, List.drop_append_of_le_length (by simp), List.drop_of_length_le (by simp), List.nil_append]
theorem coreG_min {n : Int} {LL : List (List Int)} (R : List Int) : ∀ K, (∀ i, i < K.length → cano n LL (wo1 (K ++ R) i) = true) → ∀ i, i < (coreG n LL K R).length → cano n LL (wo1 (coreG n LL K R) i) = true := by
  induction R with
  | nil =>
    intro K h i hi
    have := h i hi
    rw [List.append_nil] at this
    exact this
  | cons x R ih =>
    intro K h
    cases hc : cano n LL (K ++ R) with
    | true =>
      rw [core_yes hc]
      refine ih (K ++ [x]) fun i hi => ?_
      rw [List.append_assoc, List.singleton_append]
      rw [List.length_append, List.length_singleton] at hi
      by_cases e : i < K.length
      · exact h i e
      · obtain rfl : i = K.length := by omega
        rw [wo1_last]
        exact hc
    | false =>
      rw [core_no hc]
      refine ih K fun i hi => ?_
      refine cano_mono (fun y hy => ?_) (h i hi)
      rw [wo1_app hi] at hy ⊢
      rw [List.mem_append, List.mem_append] at hy ⊢
      rcases hy with hy | hy | hy
      · exact .inl hy
      · exact .inr (.inl hy)
      · exact .inr (.inr (List.mem_cons_of_mem _ hy))
theorem coreG_no {n : Int} {LL : List (List Int)} (R : List Int) : ∀ K, cano n LL (K ++ R) = false → cano n LL (coreG n LL K R) = false := by
  induction R with
  | nil => intro K h; rw [List.append_nil] at h; exact h
  | cons x R ih =>
    intro K h
    cases hc : cano n LL (K ++ R) with
    | true =>
      rw [core_yes hc]
      refine ih (K ++ [x]) ?_
      rw [List.append_assoc, List.singleton_append]
      exact h
    | false => rw [core_no hc]; exact ih K hc
theorem coreG_mem {n : Int} {LL : List (List Int)} (R : List Int) : ∀ K, ∀ x ∈ coreG n LL K R, x ∈ K ++ R := by
  induction R with
  | nil => intro K x hx; rw [List.append_nil]; exact hx
  | cons y R ih =>
    intro K x hx
    cases hc : cano n LL (K ++ R) with
    | true =>
      rw [core_yes hc] at hx
      have := ih (K ++ [y]) x hx
      rwa [List.append_assoc, List.singleton_append] at this
    | false =>
      rw [core_no hc] at hx
      have := ih K x hx
      rw [List.mem_append] at this ⊢
      rcases this with q | q
      · exact .inl q
      · exact .inr (List.mem_cons_of_mem _ q)
/-- what FnCore asks of a core -/
structure CoreL (n : Int) (LL : List (List Int)) (a c : List Int) : Prop where
  no : cano n LL c = false
  na : cano n LL a = false
  sub : bset.subB c a = true
  min : ∀ i, i < c.length → cano n LL (wo1 c i) = true
theorem core_laws {n : Int} {LL : List (List Int)} {a c : List Int} (h : coreO n LL a = some c) : CoreL n LL a c := by
  unfold coreO at h
  split at h
  · split at h
    · cases h
    · rename_i hn
      have hn' : cano n LL a = false := by simpa using hn
      cases h
      refine ⟨coreG_no a [] hn', hn', ?_, coreG_min a [] (fun i hi => by simp at hi)⟩
      unfold bset.subB
      rw [List.all_eq_true]
      intro x hx
      unfold cls.hasB
      exact decide_eq_true (by have := coreG_mem a [] x hx; simpa using this)
  · cases h
theorem solve_nil {n : Int} {LL : List (List Int)} {a : List Int} (h : cano n LL a = false) : (solveL n LL a).getD [] = [] := by
  unfold cano at h
  cases e : solveL n LL a with
  | none => rfl
  | some l => rw [e] at h; cases h
/-- the program's SolveWith, as the laws call it -/
theorem callW (v u : Value) (n : Int) (LL : List (List Int)) (B : List Int) (w : World) (hT : srt.Tab w) (hn : tot LL ≤ 1048576) (hB : B.length ≤ 1048576) (hv : Sls w v LL) (hu : sl.Sl w u B) :
    Calls Tryd.prog 20 #[.agg #[.int .i64 n, v], u] w fun e w' => ∃ r, e = .returned (.tuple #[r, .bool (cano n LL B)]) ∧ wo.Made w w' r ((solveL n LL B).getD []) :=
  implSolveWith v u n LL B w hT hn hB hv hu
end Go.Proofs.YtapkckfgbimmcaaDoor.ks
