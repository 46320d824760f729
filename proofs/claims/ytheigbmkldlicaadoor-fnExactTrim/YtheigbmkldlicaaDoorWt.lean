/- What take of the program's watcher does; no condition but on the words, the literals and the sizes. -/
import Derived.Test.YtheigbmkldlicaaDoorWi
namespace Go.Proofs.YtheigbmkldlicaaDoor.wm
open Go.ChangeShapes Go.WideShapes Go.ChangeAt Go.RowKit
open Go.Proofs.YtheigbmkldlicaaDoor.wm0 (end0 ret0 stepW listW listB)
open Go.Proofs.YtheigbmkldlicaaDoor.lits (okB okB_iff)
open Go.Proofs.YtheigbmkldlicaaDoor.bset (placeN placeN_le placeC)
open Go.Proofs.YtheigbmkldlicaaDoor.srt (Tab woN woN_lt fstI oppN oppN_lt andN andN_lt orN_eq or_lt)
open Go.Proofs.YtheigbmkldlicaaDoor.sl (Sl Own ints hide unhide ret_int ret_bool grown_refl grown_trans grown_drewN)
set_option linter.unusedVariables false

def Tk (I : PS → Nat → Int → List Int → List Int → Prop) (c : Nat) (s s' : WS) (w w' : World) (R : Nat) (l : Int) (F : List Int) : Prop := Wat w' c s' ∧ Stp c s s' w w' ∧ I s'.ps R l F []

set_option maxRecDepth 100000 in
set_option maxHeartbeats 8000000 in
theorem take {I : PS → Nat → Int → List Int → List Int → Prop} {N L c : Nat} {w : World} {s : WS} {l0 : Int} {F0 : List Int} (F : Fit I N) (hN : N ≤ 1048576) (h : Wat w c s) (hTab : TabF c s w) (hL : L < 2 ^ 48) (ht : s.tk < 2 ^ 48) (hI : I { s.ps with tk := s.tk ||| L } L l0 F0 []) :
    Calls Tryd.prog 143 #[.pointer (some ⟨c, 0, none⟩), .int .u64 (L : Int)] w fun e w' => ∃ s' l F', e = .returned (.tuple #[]) ∧ Tk I c s s' w w' 0 l F' := by
  have x49 := h.cell (k := 49) (by decide)
  have f49 := h.fz 49
  rw [at49] at x49
  have e1 := orN_eq s.tk L ht hL
  have k1 := h.setTk (s.tk ||| L)
  have st : Hid (Tk I c s { s with tk := s.tk ||| L } w (w.setCell ⟨c, 49, none⟩ (.int .u64 ((s.tk ||| L : Nat) : Int))) L l0 F0) := ⟨k1.1, k1.2, hI⟩
  rw [← e1] at st
  have HT := hide hTab
  have HF := hide F
  generalize s.tk = T at *
  clear k1 e1 hI h hTab ht F
  go_enter Tryd.func143, Tryd.ntmps143
  go_wp2
  clear x49 f49
  go_loopw [1] (fun sv wr => ∃ (R : Nat) (s' : WS) (l : Int) (F : List Int), sv = .int .u64 (R : Int) ∧ R < 2 ^ 48 ∧ Hid (Tk I c s s' w wr R l F)) (fun sv _ => (intOf sv).toNat)
  case atStart => exact ⟨L, _, l0, F0, rfl, hL, st⟩
  case round =>
    obtain ⟨R, s1, l1, F1, rfl, hR, hk⟩ := hrel
    clear st
    by_cases h0 : R = 0
    · subst h0
      go_wp2
      first
        | exact end0 rfl rfl ⟨s1, l1, F1, rfl, unhide hk⟩
        | exact ret0 rfl rfl ⟨s1, l1, F1, rfl, unhide hk⟩
    · have hne : ((R : Int) != 0) = true := by simp; omega
      have hRp : 0 < R := by omega
      have fs := fst_spec hRp hR
      have T1 := (unhide HT).stp (unhide hk).2.1
      have CF := hide (srt.first R _ T1.1 hRp hR)
      have bd := okB_iff.1 fs.1
      have oo := opp_ok fs.1
      have hI2 := (unhide HF).next _ _ _ _ (unhide hk).2.2 hRp hR
      rw [ps_getD] at hI2
      have hand := srt.and_pred R hRp hR
      have hns : R &&& (R - 1) < R := srt.next_lt hRp
      have hs1 : 1 ≤ R := by omega
      have CL := hide (lose (unhide HF) hN (unhide hk).1 T1 oo hI2)
      have K1 := hide (unhide hk).2.1
      have HA := hide hand
      have NS := hide hns
      clear hI2 fs hand hns T1 hk oo
      generalize hy : fstI R = y at *
      obtain ⟨b0, b1, b2⟩ := bd
      go_wp2_with fail
      refine (unhide CF).mono ?_; rintro e w2 ⟨rfl, hw⟩; have hw' := hw.symm; clear hw; subst hw'
      go_wp2_with fail
      refine (unhide CL).mono ?_; rintro e w3 ⟨s3, F3, rfl, q1, q2, q3⟩
      have R3 : Hid (Tk I c s s3 w w3 (R &&& (R - 1)) (-y) F3) := ⟨q1, (unhide K1).trans q2, q3⟩
      clear q1 q2 q3 CL CF
      go_wp2_with fail
      go_roundw
      case rel => exact ⟨R &&& (R - 1), s3, -y, F3, by rw [← unhide HA], Nat.lt_trans (unhide NS) hR, R3⟩
      case measure => rw [unhide HA]; simp [intOf]; have := unhide NS; omega
end Go.Proofs.YtheigbmkldlicaaDoor.wm
