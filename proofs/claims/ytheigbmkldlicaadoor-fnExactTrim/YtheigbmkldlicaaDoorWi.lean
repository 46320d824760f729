/- What lose of the program's watcher does: the list of a lost literal keeps the clauses that are watched by it still; no condition but on the words, the literals and the sizes. -/
import Derived.Test.YtheigbmkldlicaaDoorWg
namespace Go.Proofs.YtheigbmkldlicaaDoor.wm
open Go.ChangeShapes Go.WideShapes Go.ChangeAt Go.RowKit
open Go.Proofs.YtheigbmkldlicaaDoor.wm0 (end0 ret0 stepW listW listB)
open Go.Proofs.YtheigbmkldlicaaDoor.lits (okB okB_iff)
open Go.Proofs.YtheigbmkldlicaaDoor.bset (placeN placeN_le placeC)
open Go.Proofs.YtheigbmkldlicaaDoor.srt (Tab woN woN_lt fstI oppN oppN_lt andN andN_lt orN_eq or_lt)
open Go.Proofs.YtheigbmkldlicaaDoor.sl (Sl Own ints hide unhide ret_int ret_bool grown_refl grown_trans grown_drewN)
set_option linter.unusedVariables false

def PS.setL (P : PS) (j : Nat) (M : List Int) : PS := { P with A := P.A.set j M }
/-- what is asked of a watcher while literals are taken: R, what is left of them; l, whose list is at hand; F, what stays in it, and C, what is left of it -/
structure Fit (I : PS → Nat → Int → List Int → List Int → Prop) (N : Nat) : Prop where
  size : ∀ P R l F C, I P R l F C → P.K.length = N
  word : ∀ P R l F C, I P R l F C → P.tk < 2 ^ 48
  all : ∀ P R l F C, I P R l F C → ∀ i, i < N → (P.K.getD i zk).1 < 2 ^ 48
  lit0 : ∀ P R l F C, I P R l F C → ∀ i, i ∈ C → ∃ k : Nat, i = (k : Int) ∧ k < N ∧ okB (P.K.getD k zk).2.1 = true ∧ okB (P.K.getD k zk).2.2 = true ∧ (P.A.getD 0 []).length ≤ 4194304 ∧
    (∀ q, okB q = true → (opn (P.K.getD k zk).1 P.tk).testBit (placeN q) = true → (P.A.getD (1 + placeN q) []).length ≤ 4194304)
  lost : ∀ P R l F C, I P R l F C → C ≠ [] → okB l = true ∧ ∀ S, (opn S P.tk).testBit (placeN l) = false
  lens : ∀ P R l F C, I P R l F C → (F ++ C).length ≤ 4194304
  next : ∀ P R l F, I P R l F [] → 0 < R → R < 2 ^ 48 → I P (R &&& (R - 1)) (-fstI R) [] (P.A.getD (1 + placeN (-fstI R)) [])
  stay : ∀ P R l F (i : Nat) C, I P R l F ((i : Int) :: C) → P.mvd i l = false → I (P.rew i l) R l (F ++ [(i : Int)]) C
  move : ∀ P R l F (i : Nat) C, I P R l F ((i : Int) :: C) → P.mvd i l = true → I ((P.rew i l).setL (1 + placeN l) (F ++ C)) R l F C
theorem ps_getD (s : WS) (j : Nat) : s.ps.A.getD j [] = (s.A.getD j nil_).2 := map_getD s.A j
theorem drop_cons {C : List Int} {t : Nat} (h : t < C.length) : C.drop t = C.getD t 0 :: C.drop (t + 1) := by
  rw [List.drop_eq_getElem_cons h]
  simp [h]
theorem setL_setL (P : PS) (j : Nat) (M M' : List Int) : (P.setL j M).setL j M' = P.setL j M' := by
  unfold PS.setL
  simp only [List.set_set]
theorem more_setL (P : PS) {j i : Nat} (M : List Int) (y : Int) (h : i ≠ j) : (P.setL j M).more i y = (P.more i y).setL j M := by
  unfold PS.setL PS.more
  simp only [PS.mk.injEq, true_and, and_true]
  rw [show (P.A.set j M).getD i [] = P.A.getD i [] by rw [List.getD, List.getD, List.getElem?_set_ne (fun e => h e.symm)], List.set_comm _ _ (fun e => h e)]
/-- what is at hand does not matter to rewatch -/
theorem rew_setL (P : PS) {i : Nat} {l : Int} (M : List Int) (hl : okB l = true) (hlo : ∀ S, (opn S P.tk).testBit (placeN l) = false) (hS : (P.K.getD i zk).1 < 2 ^ 48) (h0 : okB (P.K.getD i zk).2.1 = true) (h1 : okB (P.K.getD i zk).2.2 = true) :
    (P.setL (1 + placeN l) M).rew i l = (P.rew i l).setL (1 + placeN l) M := by
  have eK : (P.setL (1 + placeN l) M).K = P.K := rfl
  have et : (P.setL (1 + placeN l) M).tk = P.tk := rfl
  have k0 : okB (sw0 (P.K.getD i zk) l) = true := by
    unfold sw0
    split
    · exact h1
    · exact h0
  unfold PS.rew
  rw [eK, et]
  split
  · rfl
  · split
    · rfl
    · rename_i hO
      split
      · exact more_setL { P with K := swK P.K i l } (j := 1 + placeN l) (i := 0) M (i : Int) (by omega)
      · rename_i hR
        have fs := fst_spec (show 0 < woN (opn (P.K.getD i zk).1 P.tk) (sw0 (P.K.getD i zk) l) by omega) (woN_lt (andN_lt _ _ hS))
        refine more_setL { P with K := P.K.set i _ } (j := 1 + placeN l) (i := 1 + placeN _) M (i : Int) (fun e => ?_)
        have e' : placeN (fstI (woN (opn (P.K.getD i zk).1 P.tk) (sw0 (P.K.getD i zk) l))) = placeN l := by omega
        have hb := fs.2
        have hol : opn (P.K.getD i zk).1 P.tk < 2 ^ 48 := andN_lt _ _ hS
        rw [srt.woN_bit (opn (P.K.getD i zk).1 P.tk) _ _ hol k0, Bool.and_eq_true, e', hlo] at hb
        exact absurd hb.1 (by simp)
theorem ps_set (s : WS) (j : Nat) (v : Value) (M : List Int) : ({ s with A := s.A.set j (v, M) } : WS).ps = s.ps.setL j M := by
  unfold WS.ps PS.setL
  simp only [List.map_set]
/-- what lose leaves -/
def Lse (I : PS → Nat → Int → List Int → List Int → Prop) (c : Nat) (s s' : WS) (w w' : World) (R : Nat) (l : Int) (F : List Int) : Prop := Wat w' c s' ∧ Stp c s s' w w' ∧ I s'.ps R l F []
/-- the loop's state: t are looked at, F of them stay -/
def Mid (I : PS → Nat → Int → List Int → List Int → Prop) (c : Nat) (s s2 : WS) (w wr : World) (R : Nat) (l : Int) (g cap t : Nat) (F C : List Int) : Prop :=
  Wat wr c s2 ∧ Stp c s s2 w wr ∧ s2.A.getD (1 + placeN l) nil_ = (.slice (some ⟨g, 0, none⟩) C.length cap, F ++ C.drop F.length) ∧ I (s2.ps.setL (1 + placeN l) (F ++ C.drop t)) R l F (C.drop t)

set_option maxRecDepth 100000 in
set_option maxHeartbeats 8000000 in
theorem lose {I : PS → Nat → Int → List Int → List Int → Prop} {N R c : Nat} {w : World} {s : WS} {l : Int} (FT : Fit I N) (hN : N ≤ 1048576) (h : Wat w c s) (hTab : TabF c s w) (hl : okB l = true) (hI : I s.ps R l [] (s.A.getD (1 + placeN l) nil_).2) :
    Calls Tryd.prog 180 #[.pointer (some ⟨c, 0, none⟩), .int .i8 l] w fun e w' => ∃ s' F, e = .returned (.tuple #[]) ∧ Lse I c s s' w w' R l F := by
  have CP := hide (fun w => placeC l w hl)
  have hp := placeN_le hl
  have hj49 : 1 + placeN l < 49 := by omega
  have hj : 1 + placeN l < 50 := by omega
  have hjl : 1 + placeN l < s.A.length := by rw [h.len]; exact hj
  have own1 := h.ls _ (mem_getD hjl)
  have ep : pos (1 + placeN l) = 1 + placeN l := by unfold pos; rw [if_neg (by omega), if_neg (by omega)]
  have x1 := h.cell (pos_lt hj)
  rw [atPos s hj, ep] at x1
  have f1 := h.fz (1 + placeN l)
  have hlen := FT.lens _ _ _ _ _ hI
  have HT := hide hTab
  have HF := hide FT
  have HL := hide hl
  obtain ⟨v, C, eA⟩ : ∃ v C, s.A.getD (1 + placeN l) nil_ = (v, C) := ⟨_, _, rfl⟩
  rw [eA] at own1 x1 hI hlen
  have own1' : w.ownsRow 0 3 1 v C.length (ints C) := own1
  have x1' : w.cell? ⟨c, 1 + placeN l, none⟩ = some v := x1
  have hI' : I s.ps R l [] C := hI
  have hCl : C.length ≤ 4194304 := hlen
  have hp' : (placeN l : Int) < 48 := by omega
  have own2 := own1'
  obtain ⟨_, ho⟩ := own2
  rcases ho with ⟨rfl, hn0⟩ | ⟨g, cap, cur, rfl, _, _, hnc, hmc, _, _⟩
  · have hC : C = [] := List.eq_nil_of_length_eq_zero hn0
    subst hC
    have k := h.set (s' := s) (q := 1 + placeN l) (v := .slice none 0 0) (by omega) (fun q hq => by
      by_cases e : q = 1 + placeN l
      · subst e
        rw [if_pos rfl]
        have a := atPos s hj
        rw [ep, eA] at a
        exact a
      · rw [if_neg e]) rfl rfl rfl ⟨rfl, rfl⟩
    have gk := fun (w1 : World) (g1 : w.grownBy w1 none) => ((h.kept g1).set (s' := s) (q := 1 + placeN l) (v := .slice none 0 0) (by omega) (fun q hq => by
      by_cases e : q = 1 + placeN l
      · subst e
        rw [if_pos rfl]
        have a := atPos s hj
        rw [ep, eA] at a
        exact a
      · rw [if_neg e]) rfl rfl rfl ⟨rfl, rfl⟩)
    have FD : Hid (∀ nq, Lse I c s s w ((w.drewN nq).setCell ⟨c, 1 + placeN l, none⟩ (.slice none 0 0)).drew R l []) := fun nq =>
      ⟨(gk _ (grown_drewN w nq)).1.kept (grown_drewN _ 1), (Stp.of_grown (grown_drewN w nq)).trans ((gk _ (grown_drewN w nq)).2.trans (Stp.of_grown (grown_drewN _ 1))), hI'⟩
    have f1' : Hid (∀ nq, (w.drewN nq).cell? ⟨c, 1 + placeN l, none⟩ = some (.slice none 0 0) ∧ (w.drewN nq).frozen? ⟨c, 1 + placeN l, none⟩ = false) := fun nq => ⟨x1', f1⟩
    clear h hTab FT hl own1 own1' x1 hI hI' hlen hjl eA k gk hn0
    generalize hpp : placeN l = p at *
    go_enter Tryd.func180, Tryd.ntmps180
    go_wp2_with fail
    go_quiet ((go_at_call 153; exact Calls.quiet_of_same (unhide CP _)))
    have FE := hide (unhide FD nq)
    obtain ⟨y1, y2⟩ := unhide f1' nq
    clear FD f1' x1' f1
    generalize w.drewN nq = w2 at *
    go_wp2_with fail
    refine wp_loop_rounds 1 ?_
    rw [rounds_succ]
    go_wp2_with fail
    go_region_with (go_at_call 153; refine (unhide CP _).mono ?_; rintro e w3 ⟨rfl, hw⟩; have hw' := hw.symm; clear hw; subst hw')
    all_goals
      go_wp2_with fail
      first
        | exact end0 rfl rfl ⟨s, [], rfl, unhide FE⟩
        | exact ret0 rfl rfl ⟨s, [], rfl, unhide FE⟩
  · have K0 : Hid (Mid I c s s w w R l g cap 0 [] C) := by
      refine ⟨h, Stp.refl _ _ _, by rw [eA]; rfl, ?_⟩
      have : s.ps.setL (1 + placeN l) ([] ++ C.drop 0) = s.ps := by
        unfold PS.setL WS.ps
        have e : (s.A.map (·.2)).set (1 + placeN l) ([] ++ C.drop 0) = s.A.map (·.2) := by
          rw [List.nil_append, List.drop_zero]
          have e2 : C = (s.A.map (·.2))[1 + placeN l]'(by rw [List.length_map]; exact hjl) := by
            rw [List.getElem_map, show s.A[1 + placeN l] = s.A.getD (1 + placeN l) nil_ by simp [hjl], eA]
          rw [e2]
          exact List.set_getElem_self _
        simp only [e]
      rw [this]
      exact hI'
    have hcap : C.length ≤ cap := hnc
    clear h hTab FT hl own1 own1' x1 hI hI' hlen hjl eA hnc hmc
    generalize hpp : placeN l = p at *
    go_enter Tryd.func180, Tryd.ntmps180
    go_wp2_with fail
    go_quiet ((go_at_call 153; exact Calls.quiet_of_same (unhide CP _)))
    have K1 : Hid (Mid I c s s w (w.drewN nq) R l g cap 0 [] C) := by
      have k := unhide K0
      exact ⟨k.1.kept (grown_drewN w nq), k.2.1.trans (Stp.of_grown (grown_drewN w nq)), k.2.2.1, k.2.2.2⟩
    clear K0 x1' f1
    go_wp2_with fail
    go_loopw [5, 7, 19] (fun u _ iv wr => ∃ (t : Nat) (F : List Int) (s2 : WS), t ≤ C.length ∧ F.length ≤ t ∧ iv = .int .i64 (t : Int) ∧ u = .slice (some ⟨g, 0, none⟩) F.length cap ∧ Hid (Mid I c s s2 w wr R l g cap t F C)) (fun _ _ iv _ => C.length - (intOf iv).toNat)
    case atStart => exact ⟨0, [], s, Nat.zero_le _, Nat.le_refl _, rfl, rfl, K1⟩
    case round =>
      obtain ⟨t, F, s2, ht, hFt, rfl, rfl, hk⟩ := hrel
      clear K1
      have hpj : 1 + placeN l = 1 + p := by rw [hpp]
      by_cases hlt : t < C.length
      · have hi' : (t : Int) < (C.length : Int) := by omega
        obtain ⟨W2, S2, eA, I2⟩ := unhide hk
        have hjl : 1 + placeN l < s2.A.length := by rw [W2.len]; omega
        have own2 := W2.ls _ (mem_getD hjl)
        rw [eA] at own2
        have hfl : (F ++ C.drop F.length).length = C.length := by rw [List.length_append, List.length_drop]; omega
        have c1 : wr.cell? ⟨g, t, none⟩ = some (.int .i64 (C.getD t 0)) := by
          have o2 : wr.ownsRow 0 3 1 (.slice (some ⟨g, 0, none⟩) C.length cap) C.length (ints (F ++ C.drop F.length)) := by
            have := own2
            rw [hfl] at this
            exact this
          rw [o2.cellAt t (by omega)]
          have e : (F ++ C.drop F.length)[t]? = some (C.getD t 0) := by
            rw [List.getElem?_append_right hFt, List.getElem?_drop, show F.length + (t - F.length) = t by omega, List.getElem?_eq_getElem hlt]
            simp [hlt]
          rw [sl.ints, List.getElem?_map, e]
          rfl
        have ed := drop_cons hlt
        rw [ed] at I2
        generalize C.getD t 0 = x at *
        obtain ⟨k, rfl, hkN, o0, o1, z0, z1⟩ := (unhide HF).lit0 _ _ _ _ _ I2 x (by simp)
        have hsz : s2.K.length = N := (unhide HF).size _ _ _ _ _ I2
        have hlo := (unhide HF).lost _ _ _ _ _ I2 (by simp)
        have hka : k < s2.K.length := by rw [hsz]; exact hkN
        have T2 := (unhide HT).stp S2
        have hS := (unhide HF).all _ _ _ _ _ I2 k hkN
        have hTk := (unhide HF).word _ _ _ _ _ I2
        have oth : ∀ q, q ≠ 1 + placeN l → (s2.ps.setL (1 + placeN l) (F ++ (k : Int) :: C.drop (t + 1))).A.getD q [] = (s2.A.getD q nil_).2 := fun q hq => by
          rw [← ps_getD]
          show (s2.ps.A.set (1 + placeN l) _).getD q [] = _
          rw [List.getD, List.getElem?_set_ne (fun e => hq e.symm)]
          rfl
        rw [oth 0 (by omega)] at z0
        have CR := rewatch (lost := l) W2 T2 hka (by rw [hsz]; exact hN) rfl hS hTk (unhide HL) o0 o1 z0 (fun q hq hb => by
          have := z1 q hq hb
          rw [oth (1 + placeN q) (fun e => by
            have e' : placeN q = placeN l := by omega
            have hb2 : (opn (s2.K.getD k zk).1 s2.tk).testBit (placeN q) = true := hb
            rw [e'] at hb2
            have hb3 := hlo.2 (s2.K.getD k zk).1
            rw [show (s2.ps.setL (1 + placeN l) (F ++ (k : Int) :: C.drop (t + 1))).tk = s2.tk from rfl, hb2] at hb3
            cases hb3)] at this
          exact this)
        have RS := fun M => rew_setL s2.ps (i := k) (l := l) M (unhide HL) hlo.2 hS o0 o1
        have MV : ∀ M, (s2.ps.setL (1 + placeN l) M).mvd k l = s2.ps.mvd k l := fun _ => rfl
        cases hmv : s2.ps.mvd k l
        · have I3 := (unhide HF).stay _ _ _ _ _ _ I2 (by rw [MV]; exact hmv)
          rw [RS] at I3
          rw [hmv] at CR
          have NX : Hid (∀ s3 w3, Wat w3 c s3 → Stp c s2 s3 wr w3 → s3.ps = s2.ps.rew k l → Same (opn (s2.K.getD k zk).1 s2.tk) s2 s3 →
              (w3.cell? ⟨g, F.length, none⟩).isSome = true ∧ w3.frozen? ⟨g, F.length, none⟩ = false ∧ (∃ s4, Mid I c s s4 w ((w3.alloc (.cells #[.int .i64 (k : Int)] 3)).setCell ⟨g, F.length, none⟩ (.int .i64 (k : Int))) R l g cap (t + 1) (F ++ [(k : Int)]) C)) := by
            intro s3 w3 q1 q2 q3 q4
            have e3 : s3.A.getD (1 + placeN l) nil_ = (.slice (some ⟨g, 0, none⟩) C.length cap, F ++ C.drop F.length) := by rw [q4 l (unhide HL) (hlo.2 _)]; exact eA
            have hjl3 : 1 + placeN l < s3.A.length := by rw [q1.len]; omega
            have own3 := q1.ls _ (mem_getD hjl3)
            rw [e3] at own3
            have o3 : w3.ownsRow 0 3 1 (.slice (some ⟨g, 0, none⟩) C.length cap) C.length (ints (F ++ C.drop F.length)) := by
              have := own3
              rw [hfl] at this
              exact this
            refine ⟨?_, o3.frozenAt _, ?_⟩
            · rw [o3.cellAt F.length (by omega), List.getElem?_eq_getElem (by rw [sl.ints_length, hfl]; omega)]
              rfl
            · have hset : (ints (F ++ C.drop F.length)).set F.length (.int .i64 (k : Int)) = ints ((F ++ [(k : Int)]) ++ C.drop (F ++ [(k : Int)]).length) := by
                have hd : C.drop F.length = C.getD F.length 0 :: C.drop (F.length + 1) := drop_cons (by omega)
                rw [hd]
                unfold sl.ints
                rw [List.map_append, List.set_append_right _ _ (by simp)]
                simp
              have k4 := q1.rowj (k := F.length) (C' := (F ++ [(k : Int)]) ++ C.drop (F ++ [(k : Int)]).length) hj (by rw [← hpj] at *; exact e3) (World.grownBy_alloc w3 (.cells #[.int .i64 (k : Int)] 3) none) hfl (by rw [List.length_append, List.length_append, List.length_drop]; simp; omega) hset
              rw [← hpj] at k4
              refine ⟨_, k4.1, S2.trans (q2.trans k4.2), ?_, ?_⟩
              · show (s3.A.set _ _).getD _ nil_ = _
                simp [hjl3]
              · rw [ps_set, setL_setL, q3]
                have e5 : F ++ (k : Int) :: C.drop (t + 1) = (F ++ [(k : Int)]) ++ C.drop (t + 1) := by simp
                rw [← e5]
                exact I3
          have HCR := hide CR
          have hroom : F.length + 1 ≤ cap := by omega
          clear CR W2 S2 I2 eA own2 hlo hsz o0 o1 z0 z1 T2 ed hk RS MV I3 oth hS hTk hfl hmv
          go_wp2_with fail
          refine (unhide HCR).mono ?_; rintro e w3 ⟨s3, rfl, q1, q2, q3, q4⟩
          obtain ⟨r1, r2, s4, r3⟩ := unhide NX s3 w3 q1 q2 q3 q4
          have lg : g < w3.heap.size := by
            cases hh : w3.cell? ⟨g, F.length, none⟩ with
            | none => rw [hh] at r1; cases r1
            | some u => exact World.block_lt_of_cell? w3 _ hh
          have hne : ¬ g = w3.heap.size := by omega
          have ew : (w3.alloc (.cells #[.int .i64 (k : Int)] 3)).setCell ⟨g, F.length, none⟩ (.int .i64 (k : Int)) = (w3.setCell ⟨g, F.length, none⟩ (.int .i64 (k : Int))).alloc (.cells #[.int .i64 (k : Int)] 3) := World.setCell_alloc_past _ _ _ _ lg
          rw [ew] at r3
          have R3 := hide r3
          clear ew
          have A1 : Hid (((w3.alloc (.cells #[.int .i64 (k : Int)] 3)).cell? ⟨g, F.length, none⟩).isSome = true ∧ (w3.alloc (.cells #[.int .i64 (k : Int)] 3)).frozen? ⟨g, F.length, none⟩ = false ∧ (w3.alloc (.cells #[.int .i64 (k : Int)] 3)).cell? ⟨w3.heap.size, 0, none⟩ = some (.int .i64 (k : Int))) := by
            have e : (w3.alloc (.cells #[.int .i64 (k : Int)] 3)).heap[g]? = w3.heap[g]? := Go.heap_alloc_old w3 _ lg
            exact ⟨by rw [World.cell?_of_block (a := ⟨g, F.length, none⟩) e]; exact r1, by rw [World.frozen?_of_block (a := ⟨g, F.length, none⟩) e]; exact r2, by simp⟩
          clear q1 q2 q3 q4 NX HCR r1 r2 r3
          go_wp2_with (at_builtin; refine roomW (unhide A1).2.2 hroom (unhide A1).1 (unhide A1).2.1 rfl (.tmp 28) (.tmp 30) rfl rfl rfl ?_)
          have fl : (F ++ [(k : Int)]).length = F.length + 1 := by simp
          go_roundw
          case rel => exact ⟨t + 1, F ++ [(k : Int)], s4, by omega, by omega, by go_num, by rw [fl], R3⟩
          case measure => simp [intOf]; omega
        · have I3 := (unhide HF).move _ _ _ _ _ _ I2 (by rw [MV]; exact hmv)
          rw [RS, setL_setL] at I3
          rw [hmv] at CR
          have NX : Hid (∀ s3 w3, Wat w3 c s3 → Stp c s2 s3 wr w3 → s3.ps = s2.ps.rew k l → Same (opn (s2.K.getD k zk).1 s2.tk) s2 s3 → Mid I c s s3 w w3 R l g cap (t + 1) F C) := by
            intro s3 w3 q1 q2 q3 q4
            refine ⟨q1, S2.trans q2, by rw [q4 l (unhide HL) (hlo.2 _)]; exact eA, ?_⟩
            rw [q3]
            exact I3
          have HCR := hide CR
          clear CR W2 S2 I2 eA own2 hlo hsz o0 o1 z0 z1 T2 ed hk RS MV I3 oth hS hTk hfl hmv
          go_wp2_with fail
          refine (unhide HCR).mono ?_; rintro e w3 ⟨s3, rfl, q1, q2, q3, q4⟩
          have R3 := hide (unhide NX s3 w3 q1 q2 q3 q4)
          clear q1 q2 q3 q4 NX HCR
          go_wp2_with fail
          go_roundw
          case rel => exact ⟨t + 1, F, s3, by omega, by omega, by go_num, rfl, R3⟩
          case measure => simp [intOf]; omega
      · have hi' : ¬ (t : Int) < (C.length : Int) := by omega
        obtain ⟨W2, S2, eA, I2⟩ := unhide hk
        have hjl : 1 + placeN l < s2.A.length := by rw [W2.len]; omega
        have own2 := W2.ls _ (mem_getD hjl)
        rw [eA] at own2
        have hfl : (F ++ C.drop F.length).length = C.length := by rw [List.length_append, List.length_drop]; omega
        have o2 : wr.ownsRow 0 3 1 (.slice (some ⟨g, 0, none⟩) C.length cap) C.length (ints (F ++ C.drop F.length)) := by
          have := own2
          rw [hfl] at this
          exact this
        have o3 := own_cut o2 (show F.length ≤ C.length by omega)
        have et : (ints (F ++ C.drop F.length)).take F.length = ints F := by
          unfold sl.ints
          rw [← List.map_take, List.take_left]
        rw [et] at o3
        have hdt : C.drop t = [] := List.drop_eq_nil_of_le (by omega)
        rw [hdt, List.append_nil] at I2
        have FIN : Hid (∀ w1, wr.grownBy w1 none → Lse I c s { s2 with A := s2.A.set (1 + placeN l) (.slice (some ⟨g, 0, none⟩) F.length cap, F) } w (w1.setCell ⟨c, pos (1 + placeN l), none⟩ (.slice (some ⟨g, 0, none⟩) F.length cap)) R l F) := by
          intro w1 g1
          have k := W2.list (w0 := w1) (w1 := w1) (j := 1 + placeN l) (M := F) (g := g) (n := F.length) (cap := cap) (by omega) g1 (o3.kept g1 (ne_none _)) ⟨rfl, rfl, rfl, Nat.le_refl _, fun _ _ _ => rfl⟩ (.inl (by rw [eA]; rfl))
          exact ⟨k.1, S2.trans k.2, by rw [ps_set]; exact I2⟩
        have x1 := W2.cell (pos_lt hj)
        have eA' := eA
        rw [hpj] at eA'
        rw [atPos s2 hj, ep, eA'] at x1
        have f1 := W2.fz (1 + p)
        rw [hpj, ep] at FIN
        have FD : Hid (Lse I c s { s2 with A := s2.A.set (1 + p) (.slice (some ⟨g, 0, none⟩) F.length cap, F) } w (wr.setCell ⟨c, 1 + p, none⟩ (.slice (some ⟨g, 0, none⟩) F.length cap)).drew R l F) := by
          have k := unhide FIN wr (grown_refl _)
          exact ⟨k.1.kept (grown_drewN _ 1), k.2.1.trans (Stp.of_grown (grown_drewN _ 1)), k.2.2⟩
        clear W2 S2 eA eA' own2 o2 o3 et hdt I2 hk hfl FIN hjl
        go_wp2_with fail
        go_region_with (go_at_call 153; refine (unhide CP _).mono ?_; rintro e w3 ⟨rfl, hw⟩; have hw' := hw.symm; clear hw; subst hw')
        all_goals
          go_wp2_with fail
          first
            | exact end0 rfl rfl ⟨_, F, rfl, unhide FD⟩
            | exact ret0 rfl rfl ⟨_, F, rfl, unhide FD⟩
end Go.Proofs.YtheigbmkldlicaaDoor.wm
