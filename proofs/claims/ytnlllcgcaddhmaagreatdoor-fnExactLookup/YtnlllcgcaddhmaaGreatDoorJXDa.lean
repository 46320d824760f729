/- What Digest (of the program and of its model) answers; no condition but on the sizes and that the tables of the library and of the program lie as their texts lay them. -/
import Derived.Test.YtnlllcgcaddhmaaGreatDoorJOq
import Derived.Test.YtnlllcgcaddhmaaGreatDoorJOt
import Derived.Test.YtnlllcgcaddhmaaGreatDoorJOz
namespace Go.Proofs.YtnlllcgcaddhmaaGreatDoor.da
open Go.ChangeShapes Go.WideShapes Go.ChangeAt Go.RowKit
open srt (Tab)
open css (tot Sls OwnS)
open cf (Box)
open txt (Pow)
open dec (str)
open cx (cnfT whole)
open cso (srtN srtB srtR srt_tot)
open zo (sumT)
open zk (TabK TabS)
open sl (hide unhide grown_refl grown_trans)
set_option linter.unusedVariables false
def txtL (n : Int) (LL : List (List Int)) : List UInt8 := cnfT (srtN n LL) (srtR n LL)
def digT (n : Int) (LL : List (List Int)) : List UInt8 := if srtB n LL && !(txtL n LL).isEmpty then sumT ⟨(txtL n LL).toArray⟩ else []
theorem txt_len (n : Int) (LL : List (List Int)) : (txtL n LL).length ≤ 12000 := by
 unfold txtL cx.cnfT
 split
 ·rename_i h
  rw [Bool.and_eq_true, decide_eq_true_iff] at h
  exact h.2
 ·exact Nat.zero_le _
theorem empty_list (l : List UInt8) : ((⟨l.toArray⟩ : ByteArray).toList == []) = l.isEmpty := by
 have e : (⟨l.toArray⟩ : ByteArray).toList = l := by
  rw [ByteArray.toList_eq]
 rw [e]
 cases l <;> rfl
set_option maxRecDepth 100000 in
set_option maxHeartbeats 4000000 in
theorem specDigest (v : Value) (n : Int) (LL : List (List Int)) (w : World) (hn : tot LL ≤ 1048576) (hv : Sls w v LL) :
  Calls Tryz.prog 37 #[.agg #[.int .i64 n, v]] w fun e w' => e = .returned (str (digT n LL)) ∧ w.grownBy w' none := by
 have g0 := World.grownBy_alloc w (.cells #[.int .i64 n, v] 26) none
 have F0 := hide (Box.new 26 w (.int .i64 n) v)
 have CS := hide (cso.specCnfSort v n LL _ hn (hv.kept g0))
 have CT := hide (fun u w1 (g : w.grownBy w1 none) (h : Sls w1 u (srtR n LL)) => cx.specCnfText u (srtN n LL) (srtR n LL) w1 (Nat.le_trans (srt_tot n LL) (by decide)) h)
 have CM := hide (fun w1 (g : w.grownBy w1 none) => zp.specSum ⟨(txtL n LL).toArray⟩ w1 (by have := txt_len n LL; show (txtL n LL).toArray.size ≤ _; rw [List.size_toArray]; omega))
 have hE : (digT n LL = if srtB n LL && !(txtL n LL).isEmpty then sumT ⟨(txtL n LL).toArray⟩ else []) := rfl
 have hem := empty_list (txtL n LL)
 have G0 := hide g0
 have x0 := (unhide F0).c0
 have x1 := (unhide F0).c1
 change Hid (∀ u w1, w.grownBy w1 none → Sls w1 u (srtR n LL) → Calls Tryz.prog 76 #[.agg #[.int .i64 (srtN n LL), u]] w1 fun e w' => e = .returned (.string ⟨(txtL n LL).toArray⟩) ∧ w1.grownBy w' none) at CT
 clear hv g0
 generalize srtN n LL = NN at *
 generalize srtB n LL = bb at *
 generalize srtR n LL = RR at *
 generalize (⟨(txtL n LL).toArray⟩ : ByteArray) = BS at *
 generalize sumT BS = SS at *
 generalize txtL n LL = TT at *
 generalize digT n LL = DD at *
 have HE := hide hE
 clear hE
 cases bb
 ·have E0 : Hid (DD = []) := (unhide HE).trans rfl
  clear HE CM hem
  go_enter Tryz.func37, Tryz.ntmps37
  go_wp2_with fail
  refine (unhide CS).mono ?_; rintro e w2 ⟨u2, rfl, o2, g2⟩
  have GZ := grown_trans (r := none) (unhide G0) g2
  obtain ⟨ua, uc, rfl⟩ := o2.len
  have ga := World.grownBy_alloc w2 (.cells #[.int .i64 NN, .slice ua RR.length uc] 26) none
  have C2 := hide (unhide CT _ _ (grown_trans (r := none) GZ ga) (o2.kept ga).sls)
  have G2 := hide (grown_trans (r := none) GZ ga)
  clear o2 g2 ga GZ CT CS x0 x1
  go_wp2_with fail
  refine (unhide C2).mono ?_; rintro e w3 ⟨rfl, g3⟩
  have G3 := hide (grown_trans (r := none) (unhide G2) g3)
  clear g3 C2
  go_wp2_with fail
  go_ret
  exact ⟨by rw [unhide E0]; rfl, unhide G3⟩
 ·cases hT0 : TT.isEmpty
  ·have E0 : Hid (DD = SS) := by show _ = _; rw [unhide HE, hT0]; rfl
   rw [hT0] at hem
   clear HE hT0
   go_enter Tryz.func37, Tryz.ntmps37
   go_wp2_with fail
   refine (unhide CS).mono ?_; rintro e w2 ⟨u2, rfl, o2, g2⟩
   have GZ := grown_trans (r := none) (unhide G0) g2
   obtain ⟨ua, uc, rfl⟩ := o2.len
   have ga := World.grownBy_alloc w2 (.cells #[.int .i64 NN, .slice ua RR.length uc] 26) none
   have C2 := hide (unhide CT _ _ (grown_trans (r := none) GZ ga) (o2.kept ga).sls)
   have G2 := hide (grown_trans (r := none) GZ ga)
   clear o2 g2 ga GZ CT CS x0 x1
   go_wp2_with fail
   refine (unhide C2).mono ?_; rintro e w3 ⟨rfl, g3⟩
   have G3 := hide (grown_trans (r := none) (unhide G2) g3)
   clear g3 C2
   go_wp2_with fail
   refine (unhide CM w3 (unhide G3)).mono ?_; rintro e w4 ⟨rfl, g4⟩
   have G4 := hide (grown_trans (r := none) (unhide G3) g4)
   clear g4 CM
   go_wp2_with fail
   go_ret
   exact ⟨by rw [unhide E0]; rfl, unhide G4⟩
  ·have E0 : Hid (DD = []) := by show _ = _; rw [unhide HE, hT0]; rfl
   rw [hT0] at hem
   clear HE hT0 CM
   go_enter Tryz.func37, Tryz.ntmps37
   go_wp2_with fail
   refine (unhide CS).mono ?_; rintro e w2 ⟨u2, rfl, o2, g2⟩
   have GZ := grown_trans (r := none) (unhide G0) g2
   obtain ⟨ua, uc, rfl⟩ := o2.len
   have ga := World.grownBy_alloc w2 (.cells #[.int .i64 NN, .slice ua RR.length uc] 26) none
   have C2 := hide (unhide CT _ _ (grown_trans (r := none) GZ ga) (o2.kept ga).sls)
   have G2 := hide (grown_trans (r := none) GZ ga)
   clear o2 g2 ga GZ CT CS x0 x1
   go_wp2_with fail
   refine (unhide C2).mono ?_; rintro e w3 ⟨rfl, g3⟩
   have G3 := hide (grown_trans (r := none) (unhide G2) g3)
   clear g3 C2
   go_wp2_with fail
   go_ret
   exact ⟨by rw [unhide E0]; rfl, unhide G3⟩
set_option maxRecDepth 100000 in
set_option maxHeartbeats 4000000 in
theorem implDigest (v : Value) (n : Int) (LL : List (List Int)) (w : World) (hT : Tab w) (hP : Pow w) (hK : TabK w) (hS : TabS w) (hn : tot LL ≤ 1048576) (hv : Sls w v LL) :
  Calls Tryz.prog 31 #[.agg #[.int .i64 n, v]] w fun e w' => e = .returned (str (digT n LL)) ∧ w.grownBy w' none := by
 have g0 := World.grownBy_alloc w (.cells #[.int .i64 n, v] 26) none
 have F0 := hide (Box.new 26 w (.int .i64 n) v)
 have CS := hide (cso.implCnfSort v n LL _ (hT.kept g0) hn (hv.kept g0))
 have CT := hide (fun u w1 (g : w.grownBy w1 none) (h : Sls w1 u (srtR n LL)) => cx.implCnfText u (srtN n LL) (srtR n LL) w1 (hP.kept g) (Nat.le_trans (srt_tot n LL) (by decide)) h)
 have CM := hide (fun w1 (g : w.grownBy w1 none) => zo.implSum ⟨(txtL n LL).toArray⟩ w1 (by have := txt_len n LL; show (txtL n LL).toArray.size ≤ _; rw [List.size_toArray]; omega) (hK.kept g) (hS.kept g))
 have hE : (digT n LL = if srtB n LL && !(txtL n LL).isEmpty then sumT ⟨(txtL n LL).toArray⟩ else []) := rfl
 have hem := empty_list (txtL n LL)
 have G0 := hide g0
 have x0 := (unhide F0).c0
 have x1 := (unhide F0).c1
 change Hid (∀ u w1, w.grownBy w1 none → Sls w1 u (srtR n LL) → Calls Tryz.prog 63 #[.agg #[.int .i64 (srtN n LL), u]] w1 fun e w' => e = .returned (.string ⟨(txtL n LL).toArray⟩) ∧ w1.grownBy w' none) at CT
 clear hv g0 hT hP hK hS
 generalize srtN n LL = NN at *
 generalize srtB n LL = bb at *
 generalize srtR n LL = RR at *
 generalize (⟨(txtL n LL).toArray⟩ : ByteArray) = BS at *
 generalize sumT BS = SS at *
 generalize txtL n LL = TT at *
 generalize digT n LL = DD at *
 have HE := hide hE
 clear hE
 cases bb
 ·have E0 : Hid (DD = []) := (unhide HE).trans rfl
  clear HE CM hem
  go_enter Tryz.func31, Tryz.ntmps31
  go_wp2_with fail
  refine (unhide CS).mono ?_; rintro e w2 ⟨u2, rfl, o2, g2⟩
  have GZ := grown_trans (r := none) (unhide G0) g2
  obtain ⟨ua, uc, rfl⟩ := o2.len
  have ga := World.grownBy_alloc w2 (.cells #[.int .i64 NN, .slice ua RR.length uc] 26) none
  have C2 := hide (unhide CT _ _ (grown_trans (r := none) GZ ga) (o2.kept ga).sls)
  have G2 := hide (grown_trans (r := none) GZ ga)
  clear o2 g2 ga GZ CT CS x0 x1
  go_wp2_with fail
  refine (unhide C2).mono ?_; rintro e w3 ⟨rfl, g3⟩
  have G3 := hide (grown_trans (r := none) (unhide G2) g3)
  clear g3 C2
  go_wp2_with fail
  go_ret
  exact ⟨by rw [unhide E0]; rfl, unhide G3⟩
 ·cases hT0 : TT.isEmpty
  ·have E0 : Hid (DD = SS) := by show _ = _; rw [unhide HE, hT0]; rfl
   rw [hT0] at hem
   clear HE hT0
   go_enter Tryz.func31, Tryz.ntmps31
   go_wp2_with fail
   refine (unhide CS).mono ?_; rintro e w2 ⟨u2, rfl, o2, g2⟩
   have GZ := grown_trans (r := none) (unhide G0) g2
   obtain ⟨ua, uc, rfl⟩ := o2.len
   have ga := World.grownBy_alloc w2 (.cells #[.int .i64 NN, .slice ua RR.length uc] 26) none
   have C2 := hide (unhide CT _ _ (grown_trans (r := none) GZ ga) (o2.kept ga).sls)
   have G2 := hide (grown_trans (r := none) GZ ga)
   clear o2 g2 ga GZ CT CS x0 x1
   go_wp2_with fail
   refine (unhide C2).mono ?_; rintro e w3 ⟨rfl, g3⟩
   have G3 := hide (grown_trans (r := none) (unhide G2) g3)
   clear g3 C2
   go_wp2_with fail
   refine (unhide CM w3 (unhide G3)).mono ?_; rintro e w4 ⟨rfl, g4⟩
   have G4 := hide (grown_trans (r := none) (unhide G3) g4)
   clear g4 CM
   go_wp2_with fail
   go_ret
   exact ⟨by rw [unhide E0]; rfl, unhide G4⟩
  ·have E0 : Hid (DD = []) := by show _ = _; rw [unhide HE, hT0]; rfl
   rw [hT0] at hem
   clear HE hT0 CM
   go_enter Tryz.func31, Tryz.ntmps31
   go_wp2_with fail
   refine (unhide CS).mono ?_; rintro e w2 ⟨u2, rfl, o2, g2⟩
   have GZ := grown_trans (r := none) (unhide G0) g2
   obtain ⟨ua, uc, rfl⟩ := o2.len
   have ga := World.grownBy_alloc w2 (.cells #[.int .i64 NN, .slice ua RR.length uc] 26) none
   have C2 := hide (unhide CT _ _ (grown_trans (r := none) GZ ga) (o2.kept ga).sls)
   have G2 := hide (grown_trans (r := none) GZ ga)
   clear o2 g2 ga GZ CT CS x0 x1
   go_wp2_with fail
   refine (unhide C2).mono ?_; rintro e w3 ⟨rfl, g3⟩
   have G3 := hide (grown_trans (r := none) (unhide G2) g3)
   clear g3 C2
   go_wp2_with fail
   go_ret
   exact ⟨by rw [unhide E0]; rfl, unhide G3⟩
end Go.Proofs.YtnlllcgcaddhmaaGreatDoor.da
