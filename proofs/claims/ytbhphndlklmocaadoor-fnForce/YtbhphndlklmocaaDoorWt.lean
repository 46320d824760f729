/- What take of the program's watcher does; no condition but on the words, the literals and the sizes. -/
import Derived.Test.YtbhphndlklmocaaDoorWr
namespace Go.Proofs.YtbhphndlklmocaaDoor.wm
open Go.ChangeShapes Go.WideShapes Go.ChangeAt Go.RowKit
open Go.Proofs.YtbhphndlklmocaaDoor.lits (okB okB_iff)
open Go.Proofs.YtbhphndlklmocaaDoor.bset (placeN placeN_le placeC)
open Go.Proofs.YtbhphndlklmocaaDoor.srt (Tab woN woN_lt fstI oppN oppN_lt andN andN_lt orN_eq or_lt)
open Go.Proofs.YtbhphndlklmocaaDoor.sl (Sl Own ints hide unhide ret_int ret_bool grown_refl grown_trans grown_drewN)
set_option linter.unusedVariables false

/-- what is asked of a watcher while literals are taken: R, what is left of them; l, whose list is at hand, and C, what is left of it -/
structure Fit (I : PS → Nat → Int → List Int → Prop) (N : Nat) : Prop where
  size : ∀ P R l C, I P R l C → P.K.length = N
  word : ∀ P R l C, I P R l C → P.tk < 2 ^ 48
  all : ∀ P R l C, I P R l C → ∀ i, i < N → (P.K.getD i zk).1 < 2 ^ 48
  lit0 : ∀ P R l C, I P R l C → ∀ i, i ∈ C → ∃ k : Nat, i = (k : Int) ∧ k < N ∧ okB (P.K.getD k zk).2.1 = true ∧ okB (P.K.getD k zk).2.2 = true ∧ (P.A.getD 0 []).length ≤ 4194304 ∧
    (∀ q, okB q = true → (opn (P.K.getD k zk).1 P.tk).testBit (placeN q) = true → (P.A.getD (1 + placeN q) []).length ≤ 4194304)
  lost : ∀ P R l C, I P R l C → C ≠ [] → okB l = true ∧ ∀ S, (opn S P.tk).testBit (placeN l) = false
  lens : ∀ P R l C, I P R l C → C.length ≤ 4194304
  next : ∀ P R l, I P R l [] → 0 < R → R < 2 ^ 48 → I P (R &&& (R - 1)) (-fstI R) (P.A.getD (1 + placeN (-fstI R)) [])
  step : ∀ P R l (i : Nat) C, I P R l ((i : Int) :: C) → I (P.rew i l) R l C
theorem opp_ok {x : Int} (h : okB x = true) : okB (-x) = true := by
  have := okB_iff.1 h
  exact lits.okB_yes (by omega)
theorem ps_getD (s : WS) (j : Nat) : s.ps.A.getD j [] = (s.A.getD j nil_).2 := map_getD s.A j
def Tk (I : PS → Nat → Int → List Int → Prop) (c : Nat) (s s' : WS) (w w' : World) (R : Nat) (l : Int) (C : List Int) : Prop := Wat w' c s' ∧ Stp c s s' w w' ∧ I s'.ps R l C
theorem drop_cons {C : List Int} {t : Nat} (h : t < C.length) : C.drop t = C.getD t 0 :: C.drop (t + 1) := by
  rw [List.drop_eq_getElem_cons h]
  simp [h]

set_option maxRecDepth 100000 in
set_option maxHeartbeats 8000000 in
theorem take {I : PS → Nat → Int → List Int → Prop} {N L c : Nat} {w : World} {s : WS} {l0 : Int} (F : Fit I N) (hN : N ≤ 1048576) (h : Wat w c s) (hTab : TabF c s w) (hL : L < 2 ^ 48) (ht : s.tk < 2 ^ 48) (hI : I { s.ps with tk := s.tk ||| L } L l0 []) :
    Calls Tryd.prog 94 #[.pointer (some ⟨c, 0, none⟩), .int .u64 (L : Int)] w fun e w' => ∃ s' l, e = .returned (.tuple #[]) ∧ Tk I c s s' w w' 0 l [] := by
  have x49 := h.cell (k := 49) (by decide)
  have f49 := h.fz 49
  rw [at49] at x49
  have e1 := orN_eq s.tk L ht hL
  have k1 := h.setTk (s.tk ||| L)
  have st : Hid (Tk I c s { s with tk := s.tk ||| L } w (w.setCell ⟨c, 49, none⟩ (.int .u64 ((s.tk ||| L : Nat) : Int))) L l0 []) := ⟨k1.1, k1.2, hI⟩
  rw [← e1] at st
  have HT := hide hTab
  have HF := hide F
  generalize s.tk = T at *
  clear k1 e1 hI h hTab ht F
  go_enter Tryd.func94, Tryd.ntmps94
  go_wp2
  clear x49 f49
  go_loopw [1] (fun sv wr => ∃ (R : Nat) (s' : WS) (l : Int), sv = .int .u64 (R : Int) ∧ R < 2 ^ 48 ∧ Hid (Tk I c s s' w wr R l [])) (fun sv _ => (intOf sv).toNat)
  case atStart => exact ⟨L, _, l0, rfl, hL, st⟩
  case round =>
    obtain ⟨R, s1, l1, rfl, hR, hk⟩ := hrel
    clear st
    by_cases h0 : R = 0
    · subst h0
      go_wp2
      first
        | exact end0 rfl rfl ⟨s1, l1, rfl, unhide hk⟩
        | exact ret0 rfl rfl ⟨s1, l1, rfl, unhide hk⟩
    · have hne : ((R : Int) != 0) = true := by simp; omega
      have hRp : 0 < R := by omega
      have fs := fst_spec hRp hR
      have T1 := (unhide HT).stp (unhide hk).2.1
      have CF := hide (srt.first R _ T1.1 hRp hR)
      have bd := okB_iff.1 fs.1
      have oo := opp_ok fs.1
      have CP := hide (fun w => placeC (-fstI R) w oo)
      have hp := placeN_le oo
      have hI2 := (unhide HF).next _ _ _ (unhide hk).2.2 hRp hR
      rw [ps_getD] at hI2
      have hj : 1 + placeN (-fstI R) < 49 := by omega
      have hjl : 1 + placeN (-fstI R) < s1.A.length := by rw [(unhide hk).1.len]; exact hj
      have own1 := (unhide hk).1.ls _ (mem_getD hjl)
      have x1 := (unhide hk).1.cell (pos_lt hj)
      rw [atPos s1 hj, show pos (1 + placeN (-fstI R)) = 1 + placeN (-fstI R) from if_neg (by omega)] at x1
      have hCl := (unhide HF).lens _ _ _ _ hI2
      have hand := srt.and_pred R hRp hR
      have hns : R &&& (R - 1) < R := srt.next_lt hRp
      have hs1 : 1 ≤ R := by omega
      obtain ⟨v, C, eA⟩ : ∃ v C, s1.A.getD (1 + placeN (-fstI R)) nil_ = (v, C) := ⟨_, _, rfl⟩
      rw [eA] at own1 x1 hI2 hCl
      obtain ⟨va, vc, ev, hcells⟩ := Sl.of_own own1
      have ev' : v = .slice va C.length vc := ev
      subst ev'
      have K1 := hide hk
      have EA := hide eA
      have HI2 := hide hI2
      have HA := hide hand
      have NS := hide hns
      clear hI2 own1 hjl eA ev hcells fs hand hns T1 hk
      generalize hy : fstI R = y at *
      obtain ⟨b0, b1, b2⟩ := bd
      have hp' : (placeN (-y) : Int) < 48 := by omega
      generalize hpp : placeN (-y) = p at *
      go_wp2_with fail
      refine (unhide CF).mono ?_; rintro e w2 ⟨rfl, hw⟩; have hw' := hw.symm; clear hw; subst hw'
      go_wp2_with fail
      go_quiet (first | (go_at_call 110; refine Calls.quiet_of_same (unhide CP _)))
      have K2 : Hid (Tk I c s s1 w (wr.drewN nq) (R &&& (R - 1)) (-y) C) := ⟨(unhide (unhide K1)).1.kept (grown_drewN wr nq), (unhide (unhide K1)).2.1.trans (Stp.of_grown (grown_drewN wr nq)), unhide HI2⟩
      clear x1 CF CP HI2 K1
      go_wp2_with fail
      go_loopw [32] (fun iv wx => ∃ (t : Nat) (s2 : WS), t ≤ C.length ∧ iv = .int .i64 (t : Int) ∧ Hid (Tk I c s s2 w wx (R &&& (R - 1)) (-y) (C.drop t) ∧ s2.A.getD (1 + p) nil_ = (.slice va C.length vc, C))) (fun iv _ => C.length - (intOf iv).toNat)
      case atStart => exact ⟨0, s1, Nat.zero_le _, rfl, unhide K2, unhide EA⟩
      case round =>
        obtain ⟨t, s2, ht, rfl, hk2⟩ := hrel
        clear K2 EA
        by_cases hlt : t < C.length
        · have hi' : (t : Int) < (C.length : Int) := by omega
          obtain ⟨⟨W2, S2, I2⟩, eA⟩ := unhide hk2
          have hjl : 1 + p < s2.A.length := by rw [W2.len]; exact hj
          have own2 := W2.ls _ (mem_getD hjl)
          rw [eA] at own2
          obtain ⟨a', c', e', hcells⟩ := Sl.of_own own2
          simp only [Value.slice.injEq] at e'
          obtain ⟨rfl, _, rfl⟩ := e'
          rcases hcells with hnil | ⟨b, off, rfl, hb, hcb⟩
          · rw [show C = [] from hnil] at hlt
            simp at hlt
          · have c1 := hcb t hlt
            have ed := drop_cons hlt
            rw [ed] at I2
            have c1' : _ = some (Value.int .i64 (C.getD t 0)) := c1
            clear c1
            generalize C.getD t 0 = x at *
            obtain ⟨k, rfl, hkN, o0, o1, z0, z1⟩ := (unhide HF).lit0 _ _ _ _ I2 x (by simp)
            have hsz := (unhide HF).size _ _ _ _ I2
            have hlo := (unhide HF).lost _ _ _ _ I2 (by simp)
            have hka : k < s2.K.length := by rw [show s2.K.length = N from hsz]; exact hkN
            have T2 := (unhide HT).stp S2
            rw [ps_getD] at z0
            have CR := rewatch (lost := -y) W2 T2 hka (by rw [show s2.K.length = N from hsz]; exact hN) rfl ((unhide HF).all _ _ _ _ I2 k hkN) ((unhide HF).word _ _ _ _ I2) hlo.1 o0 o1 z0 (fun q hq hb => by
              have := z1 q hq hb
              rw [ps_getD] at this
              exact this)
            have NX : Hid (∀ s3 w3, Wat w3 c s3 → Stp c s2 s3 wr w3 → s3.ps = s2.ps.rew k (-y) → Same (opn (s2.K.getD k zk).1 s2.tk) s2 s3 → Tk I c s s3 w w3 (R &&& (R - 1)) (-y) (C.drop (t + 1)) ∧ s3.A.getD (1 + p) nil_ = (.slice (some ⟨b, off, none⟩) C.length vc, C)) := by
              intro s3 w3 q1 q2 q3 q4
              refine ⟨⟨q1, S2.trans q2, ?_⟩, ?_⟩
              · rw [q3]
                exact (unhide HF).step _ _ _ _ _ I2
              · rw [← hpp, q4 (-y) hlo.1 (hlo.2 _), hpp]
                exact eA
            have HCR := hide CR
            clear CR W2 S2 I2 eA own2 hcb hlo hsz o0 o1 z0 z1 T2 ed hk2
            go_wp2_with fail
            refine (unhide HCR).mono ?_; rintro e w3 ⟨s3, rfl, q1, q2, q3, q4⟩
            have R3 := hide (unhide NX s3 w3 q1 q2 q3 q4)
            clear q1 q2 q3 q4 NX HCR
            go_wp2_with fail
            go_roundw
            case rel => exact ⟨t + 1, s3, by omega, by go_num, unhide R3⟩
            case measure => simp [intOf]; omega
        · have hi' : ¬ (t : Int) < (C.length : Int) := by omega
          have ed : C.drop t = [] := List.drop_eq_nil_of_le (by omega)
          have R3 : Hid (Tk I c s s2 w wr (R &&& (R - 1)) (-y) []) := by
            have := (unhide hk2).1
            rw [ed] at this
            exact this
          clear hk2 ed
          go_wp2_with fail
          go_roundw
          case rel => exact ⟨R &&& (R - 1), s2, -y, by rw [← unhide HA], Nat.lt_trans (unhide NS) hR, R3⟩
          case measure => rw [unhide HA]; simp [intOf]; have := unhide NS; omega
end Go.Proofs.YtbhphndlklmocaaDoor.wm
