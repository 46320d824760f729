/- The closure of eachSubset: what it does to the builder, by induction on how many are missing; no condition but on sizes. -/
import Derived.Test.YtmmmldcnadidkaaTb
namespace Go.Proofs.Ytmmmldcnadidkaa.t2
open Go.ChangeShapes Go.WideShapes Go.ChangeAt Go.RowKit
open Go.Proofs.Ytmmmldcnadidkaa.sl (Sl Own ints hide unhide ret_int ret_bool grown_refl grown_trans grown_drewN)
open Go.Proofs.Ytmmmldcnadidkaa.css (Sls OwnS tot Apart own_ne own_ne' own_kind own_mono)
open Go.Proofs.Ytmmmldcnadidkaa.cf (Box)
set_option linter.unusedVariables false

/-- the two function values -/
def tellV (p : Nat) : Value := .func (.func 31) #[.pointer (some ⟨p, 0, none⟩)] #[]
def pickV (b1 b2 b3 b4 b5 : Nat) : Value := .func (.func 38) #[] #[.pointer (some ⟨b1, 0, none⟩), .pointer (some ⟨b2, 0, none⟩), .pointer (some ⟨b3, 0, none⟩), .pointer (some ⟨b4, 0, none⟩), .pointer (some ⟨b5, 0, none⟩)]
/-- what comes out: so many clauses more, and what was picked before, or a builder that has refused -/
def PickE (W0 Wb : World) (p b1 b2 b3 b4 b5 m : Nat) (t3 t5 : TypeId) (lv vb : Value) (L P : List Int) (r : Bool) (D : List (Value × List Int)) (Cs : List (List Int)) (e : Ending) (w' : World) : Prop :=
  ∃ b P' pv' v' r' D', e = .returned (.bool b) ∧ Pk W0 Wb w' p b1 b2 b3 b4 b5 m t3 t5 (tellV p) (pickV b1 b2 b3 b4 b5) lv vb L P' pv' v' r' D' ∧ r' = addsR r (D.map (·.2)) Cs ∧ D'.map (·.2) = addsC r (D.map (·.2)) Cs ∧ (b = true → P' = P) ∧ (b = false → r' = true)

set_option maxRecDepth 10000 in
set_option maxHeartbeats 4000000 in
theorem pick0 (W0 Wb w : World) (p b1 b2 b3 b4 b5 m k : Nat) (t3 t5 : TypeId) (lv vb pv v : Value) (L P : List Int) (r : Bool) (D : List (Value × List Int)) (hm : P.length = m) (hM : m ≤ 1048576)
    (h : Pk W0 Wb w p b1 b2 b3 b4 b5 m t3 t5 (tellV p) (pickV b1 b2 b3 b4 b5) lv vb L P pv v r D) :
    Calls Try.prog 38 #[.int .i64 (k : Int), .pointer (some ⟨b1, 0, none⟩), .pointer (some ⟨b2, 0, none⟩), .pointer (some ⟨b3, 0, none⟩), .pointer (some ⟨b4, 0, none⟩), .pointer (some ⟨b5, 0, none⟩)] w fun e w' => PickE W0 Wb p b1 b2 b3 b4 b5 m t3 t5 lv vb L P r D (told P L 0 k) e w' := by
  have k1 := h.c1.cell
  have k2 := h.c2.cell
  have k3 := h.c3.cell
  obtain ⟨pa, pc, rfl, _⟩ := Sl.of_own h.row
  have A := hide (addD p v (.slice pa P.length pc) r D P _ _ W0 w (by omega) h.len h.bld (Own.of h.row))
  have H := hide h
  subst hm
  unfold tellV at k3
  clear h
  go_enter Try.func38, Try.ntmps38
  go_wp2_with fail
  refine (unhide A).mono ?_; rintro e w1 ⟨rfl, v', D', e1, hb, hf, hd⟩
  have hl : D'.length ≤ 120 := by
    have h1 := addC_len r (D.map (·.2)) P (by rw [List.length_map]; exact (unhide H).len)
    rw [← e1, List.length_map] at h1
    exact h1
  have R := hide (And.intro ((unhide H).tell hb hl hf hd) e1)
  clear hb hf hd e1 hl A
  go_wp2_with fail
  go_ret
  refine ⟨_, P, _, v', _, D', rfl, (unhide R).1, ?_, ?_, fun _ => rfl, fun e => ?_⟩
  · rw [told_zero]
    rfl
  · rw [told_zero]
    exact (unhide R).2
  · simpa using e

theorem comb {r r' r'' : Bool} {CC CC' CC'' A B : List (List Int)} (h1 : r' = addsR r CC A) (h2 : CC' = addsC r CC A) (h3 : r'' = addsR r' CC' B) (h4 : CC'' = addsC r' CC' B) : r'' = addsR r CC (A ++ B) ∧ CC'' = addsC r CC (A ++ B) := by
  subst h1 h2 h3 h4
  have := adds_app A r CC B
  exact ⟨this.1.symm, this.2.symm⟩
theorem halt {r : Bool} {CC CC' A B : List (List Int)} (h1 : true = addsR r CC A) (h2 : CC' = addsC r CC A) : true = addsR r CC (A ++ B) ∧ CC' = addsC r CC (A ++ B) := by
  have := adds_stop A B r CC h1.symm
  exact ⟨this.1.symm, h2.trans this.2.symm⟩
/-- what is picked lies in a row of its own -/
theorem Pk.form {W0 Wb w : World} {p b1 b2 b3 b4 b5 m : Nat} {t3 t5 : TypeId} {x3 x5 lv vb : Value} {L P : List Int} {x : Int} {pv v : Value} {r : Bool} {D : List (Value × List Int)} (h : Pk W0 Wb w p b1 b2 b3 b4 b5 m t3 t5 x3 x5 lv vb L (P ++ [x]) pv v r D) : ∃ g cap, pv = .slice (some ⟨g, 0, none⟩) (P.length + 1) cap ∧ P.length + 1 ≤ cap ∧ cap ≤ 9223372036854775807 := by
  obtain ⟨_, h2⟩ := h.row
  rcases h2 with ⟨_, h0⟩ | ⟨g, cap, cur, e, _, _, hn, hm, _⟩
  · simp at h0
  · refine ⟨g, cap, by rw [e, List.length_append]; rfl, ?_, ?_⟩
    · rw [List.length_append] at hn
      exact hn
    · unfold maxLen at hm
      exact hm

set_option maxRecDepth 10000 in
set_option maxHeartbeats 8000000 in
theorem pick (W0 Wb : World) (p b1 b2 b3 b4 b5 m : Nat) (t3 t5 : TypeId) (lv vb : Value) (L : List Int) (hM : m ≤ 1048576) (hL : L.length ≤ 1048576) : ∀ (j : Nat) (w : World) (k : Nat) (pv v : Value) (P : List Int) (r : Bool) (D : List (Value × List Int)), P.length + j = m → k ≤ L.length →
    Pk W0 Wb w p b1 b2 b3 b4 b5 m t3 t5 (tellV p) (pickV b1 b2 b3 b4 b5) lv vb L P pv v r D →
    Calls Try.prog 38 #[.int .i64 (k : Int), .pointer (some ⟨b1, 0, none⟩), .pointer (some ⟨b2, 0, none⟩), .pointer (some ⟨b3, 0, none⟩), .pointer (some ⟨b4, 0, none⟩), .pointer (some ⟨b5, 0, none⟩)] w fun e w' => PickE W0 Wb p b1 b2 b3 b4 b5 m t3 t5 lv vb L P r D (told P L j k) e w' := by
  intro j
  induction j with
  | zero => exact fun w k pv v P r D hm hk h => pick0 W0 Wb w p b1 b2 b3 b4 b5 m k t3 t5 lv vb pv v L P r D hm hM h
  | succ j ih =>
    intro w k pv v P r D hm hk h
    have IH := hide ih
    clear ih
    have k1 := h.c1.cell
    have k2 := h.c2.cell
    obtain ⟨pa, pc, rfl, _⟩ := Sl.of_own h.row
    have H := hide h
    have hsub : (m : Int) - (P.length : Int) = (j : Int) + 1 := by omega
    have hz : ((j : Int) + 1 == 0) = false := by simp; omega
    have hm1 : (P.length : Int) ≤ (m : Int) := by omega
    have HM := hide hm
    clear h hm
    go_enter Try.func38, Try.ntmps38
    go_wp2_with fail
    go_loopw [9] (fun i wr => ∃ (k' : Nat) (v' : Value) (r' : Bool) (D' : List (Value × List Int)) (pv' : Value) (A : List (List Int)), i = .int .i64 (k' : Int) ∧ k' ≤ L.length ∧ Hid (Pk W0 Wb wr p b1 b2 b3 b4 b5 m t3 t5 (tellV p) (pickV b1 b2 b3 b4 b5) lv vb L P pv' v' r' D') ∧ Hid (told P L (j + 1) k = A ++ told P L (j + 1) k' ∧ r' = addsR r (D.map (·.2)) A ∧ D'.map (·.2) = addsC r (D.map (·.2)) A)) (fun i _ => L.length + 1 - (intOf i).toNat)
    case atStart => exact ⟨k, v, r, D, _, [], rfl, hk, H, by show _ ∧ _ ∧ _; exact ⟨rfl, rfl, rfl⟩⟩
    case round =>
      obtain ⟨k', v', r', D', pv', A, rfl, hk', hp, ha⟩ := hrel
      clear H k1 k2
      have hp0 := unhide hp
      obtain ⟨la, lc, elv, hlc⟩ := Sl.of_own hp0.list
      subst elv
      have k4 := hp0.c4.cell
      by_cases hc : k' + (j + 1) ≤ L.length
      · have hc' : (k' : Int) + ((j : Int) + 1) ≤ (L.length : Int) := by omega
        have hkl : k' < L.length := by omega
        have hi' : (k' : Int) < (L.length : Int) := by omega
        rcases hlc with h | ⟨lb, lo, rfl, hlb, hcb⟩
        · rw [h] at hkl
          simp at hkl
        · have c1 := hcb k' hkl
          have ts := told_step P L j k' hkl
          obtain ⟨a1, a2, a3⟩ := unhide ha
          rw [ts] at a1
          obtain ⟨qa, qc, rfl, _⟩ := Sl.of_own hp0.row
          generalize L.getD k' 0 = x at *
          have gA := World.grownBy_alloc wr (.cells #[.int .i64 x] 3) none
          have q2 := hp0.c2.cell
          have qf := hp0.c2.f
          have q3 := (hp0.kept gA).c2.cell
          have q4 := (hp0.kept gA).c4.cell
          have PL : P.length ≤ 1048576 := by have := unhide HM; omega
          have RW := hide hp0.row
          have RL := hide (Nat.le_trans hp0.fr.size (Nat.le_refl _))
          have HA := hide (And.intro a1 (And.intro a2 a3))
          clear hcb hlb ts a1 a2 a3 ha hp0 gA
          go_wp2_with fail
          go_region_law
            (first
              | (refine stepPd (unhide RW) (unhide RL) PL (by rfl) _ _ (by rfl) (by rfl) (by rfl) ?_; intro g3 cap3 w3 h3 g3' n3; have R3 := hide ((unhide hp).push h3 g3' n3); have y1 := (unhide R3).1.cell; have y2 := (unhide R3).1.f; clear h3 g3' n3))
          all_goals
            generalize hW5 : w3.setCell ⟨b2, 0, none⟩ (.slice (some ⟨g3, 0, none⟩) (P.length + 1) cap3) = W5 at *
            have P5 := hide (unhide R3).2
            have z5 := (unhide P5).c5.cell
            unfold pickV at z5
            have ih := unhide IH W5 (k' + 1) _ v' (P ++ [x]) r' D' (by rw [List.length_append]; have := unhide HM; simp only [List.length_cons, List.length_nil]; omega) (by omega) (unhide P5)
            rw [show ((k' + 1 : Nat) : Int) = (k' : Int) + 1 by omega] at ih
            have CI := hide ih
            clear hW5 R3 ih y1 y2 q2 qf q3 q4 k4 c1 RW RL
            go_wp2_with fail
            refine (unhide CI).mono ?_; rintro e w6 ⟨b, P', pv6, v6, r6, D6, rfl, p6, e6, f6, s6, t6⟩
            have hh := comb (unhide HA).2.1 (unhide HA).2.2 e6 f6
            have TA := (unhide HA).1
            cases b
            · have hr := t6 rfl
              have E1 : r6 = addsR r (D.map (·.2)) (told P L (j + 1) k) := by
                rw [TA, ← List.append_assoc, hr]
                rw [hr] at hh
                exact (halt hh.1 hh.2).1
              have E2 : D6.map (·.2) = addsC r (D.map (·.2)) (told P L (j + 1) k) := by
                rw [TA, ← List.append_assoc]
                rw [hr] at hh
                exact (halt hh.1 hh.2).2
              have R := hide (And.intro p6 (And.intro E1 (And.intro E2 hr)))
              clear hh TA e6 f6 s6 t6 p6 hr HA CI P5 z5 E1 E2
              go_wp2_with fail
              go_ret
              exact ⟨false, P', pv6, v6, r6, D6, rfl, (unhide R).1, (unhide R).2.1, (unhide R).2.2.1, (fun e => by cases e), fun _ => (unhide R).2.2.2⟩
            · have hP := s6 rfl
              subst hP
              obtain ⟨g6, cap6, rfl, n6, m6⟩ := p6.form
              have q6 := p6.c2.cell
              have qf6 := p6.c2.f
              have P6 := hide p6.pop
              have R : Hid (told P L (j + 1) k = (A ++ told (P ++ [x]) L j (k' + 1)) ++ told P L (j + 1) (k' + 1) ∧ r6 = addsR r (D.map (·.2)) (A ++ told (P ++ [x]) L j (k' + 1)) ∧ D6.map (·.2) = addsC r (D.map (·.2)) (A ++ told (P ++ [x]) L j (k' + 1))) := ⟨by rw [TA, List.append_assoc], hh.1, hh.2⟩
              clear hh TA e6 f6 s6 t6 p6 HA CI P5 z5
              go_wp2_with fail
              go_roundw
              case rel => exact ⟨k' + 1, v6, r6, D6, _, _, by go_num, by omega, P6, R⟩
              case measure => simp [intOf]; omega
      · have hc' : ¬ (k' : Int) + ((j : Int) + 1) ≤ (L.length : Int) := by omega
        have te := told_end P L (j + 1) k' (by omega) (by omega)
        obtain ⟨a1, a2, a3⟩ := unhide ha
        rw [te, List.append_nil] at a1
        have R := hide (And.intro hp0 (And.intro (show r' = addsR r (D.map (·.2)) (told P L (j + 1) k) by rw [a1]; exact a2) (show D'.map (·.2) = addsC r (D.map (·.2)) (told P L (j + 1) k) by rw [a1]; exact a3)))
        clear hlc te a1 a2 a3 ha hp0 hp
        go_wp2_with fail
        go_ret
        exact ⟨true, P, pv', v', r', D', rfl, (unhide R).1, (unhide R).2.1, (unhide R).2.2, fun _ => rfl, fun e => by cases e⟩
end Go.Proofs.Ytmmmldcnadidkaa.t2
