/- Structs of four values in memory; what the small helpers on certificates (a size, a copy, an equality) do; no condition but on sizes. -/
import Derived.Test.YtcgiphcfjhbonaaGreatDoorJXSl
import Derived.Test.YtcgiphcfjhbonaaGreatDoorJOq
import Derived.Test.YtcgiphcfjhbonaaGreatDoorJOt
import Derived.Test.YtcgiphcfjhbonaaGreatDoorJOz
import Derived.Test.YtcgiphcfjhbonaaGreatDoorJOr
import Derived.Test.YtcgiphcfjhbonaaGreatDoorJOm
import Derived.Test.YtcgiphcfjhbonaaGreatDoorJXLq
import Derived.LaidEql
import Derived.Stop.Asserts
import Derived.RowKitTokens
import Derived.Deep.RegionHeld3
import Derived.Test.YtcgiphcfjhbonaaGreatDoorJOl
namespace Go.Proofs.YtcgiphcfjhbonaaGreatDoor.yb
open Go.ChangeShapes Go.WideShapes Go.ChangeAt Go.RowKit
open sl (hide unhide ret_int ret_bool grown_refl grown_trans grown_drewN)
set_option linter.unusedVariables false
def Box4 (t : TypeId) (w : World) (c : Nat) (a b p x : Value) : Prop := w.heap[c]? = some (.cells #[a, b, p, x] t (0, 0))
theorem Box4.c0 {t : TypeId} {w : World} {c : Nat} {a b p x : Value} (h : Box4 t w c a b p x) : w.cell? ⟨c, 0, none⟩ = some a := by
 unfold Box4 at h
 simp [World.cell?, h]
theorem Box4.c1 {t : TypeId} {w : World} {c : Nat} {a b p x : Value} (h : Box4 t w c a b p x) : w.cell? ⟨c, 1, none⟩ = some b := by
 unfold Box4 at h
 simp [World.cell?, h]
theorem Box4.c2 {t : TypeId} {w : World} {c : Nat} {a b p x : Value} (h : Box4 t w c a b p x) : w.cell? ⟨c, 2, none⟩ = some p := by
 unfold Box4 at h
 simp [World.cell?, h]
theorem Box4.c3 {t : TypeId} {w : World} {c : Nat} {a b p x : Value} (h : Box4 t w c a b p x) : w.cell? ⟨c, 3, none⟩ = some x := by
 unfold Box4 at h
 simp [World.cell?, h]
theorem Box4.f {t : TypeId} {w : World} {c : Nat} {a b p x : Value} (h : Box4 t w c a b p x) (i : Nat) : w.frozen? ⟨c, i, none⟩ = false := by
 unfold Box4 at h
 simp [World.frozen?, h]
theorem Box4.lt {t : TypeId} {w : World} {c : Nat} {a b p x : Value} (h : Box4 t w c a b p x) : c < w.heap.size := (Array.getElem?_eq_some_iff.1 h).1
theorem Box4.by {t : TypeId} {w w' : World} {c : Nat} {a b p x : Value} {r : Option Nat} (h : Box4 t w c a b p x) (g : w.grownBy w' r) (hr : r ≠ some c) : Box4 t w' c a b p x := by
 unfold Box4
 rw [g.block c h.lt (fun e => hr e.symm)]
 exact h
theorem Box4.kept {t : TypeId} {w w' : World} {c : Nat} {a b p x : Value} (h : Box4 t w c a b p x) (g : w.grownBy w' none) : Box4 t w' c a b p x := h.by g (fun e => by cases e)
theorem Box4.new (t : TypeId) (w : World) (a b p x : Value) : Box4 t (w.alloc (.cells #[a, b, p, x] t)) w.heap.size a b p x := by
 show (w.heap.push _)[w.heap.size]? = _
 simp
theorem Box4.set0 {t : TypeId} {w : World} {c : Nat} {a b p x : Value} (h : Box4 t w c a b p x) (u : Value) : Box4 t (w.setCell ⟨c, 0, none⟩ u) c u b p x := by
 unfold Box4 at *
 simp [World.setCell, Array.getElem?_modify, h]
theorem Box4.set1 {t : TypeId} {w : World} {c : Nat} {a b p x : Value} (h : Box4 t w c a b p x) (u : Value) : Box4 t (w.setCell ⟨c, 1, none⟩ u) c a u p x := by
 unfold Box4 at *
 simp [World.setCell, Array.getElem?_modify, h]
theorem Box4.set2 {t : TypeId} {w : World} {c : Nat} {a b p x : Value} (h : Box4 t w c a b p x) (u : Value) : Box4 t (w.setCell ⟨c, 2, none⟩ u) c a b u x := by
 unfold Box4 at *
 simp [World.setCell, Array.getElem?_modify, h]
theorem Box4.set3 {t : TypeId} {w : World} {c : Nat} {a b p x : Value} (h : Box4 t w c a b p x) (u : Value) : Box4 t (w.setCell ⟨c, 3, none⟩ u) c a b p u := by
 unfold Box4 at *
 simp [World.setCell, Array.getElem?_modify, h]
theorem Box4.setO {t : TypeId} {w : World} {c d i : Nat} {a b p x u : Value} (h : Box4 t w c a b p x) (hd : d ≠ c) : Box4 t (w.setCell ⟨d, i, none⟩ u) c a b p x :=
 h.by (sl.grown_setCell w d i u) (fun e => hd (by cases e; rfl))
theorem Box4.setA {t : TypeId} {w : World} {c : Nat} {a b p x : Value} (h : Box4 t w c a b p x) (a' b' p' x' : Value) : Box4 t ((((w.setCell ⟨c, 0, none⟩ a').setCell ⟨c, 1, none⟩ b').setCell ⟨c, 2, none⟩ p').setCell ⟨c, 3, none⟩ x') c a' b' p' x' := (((h.set0 a').set1 b').set2 p').set3 x'
theorem size_set (w : World) (a : Addr) (u : Value) : (w.setCell a u).heap.size = w.heap.size := by simp [World.setCell]
theorem grown_set {w w1 : World} {c i : Nat} {u : Value} (g : w.grownBy w1 none) (h : w.heap.size ≤ c) : w.grownBy (w1.setCell ⟨c, i, none⟩ u) none :=
 ⟨g.os, g.tape, g.output, by rw [size_set]; exact g.size, fun k hk _ => (Below.heap_setCell _ _ _ _ (by show k ≠ c; omega)).trans (g.block k hk (fun e => by cases e))⟩
theorem grown_setA {w w1 : World} {c : Nat} {a b p x : Value} (g : w.grownBy w1 none) (h : w.heap.size ≤ c) : w.grownBy ((((w1.setCell ⟨c, 0, none⟩ a).setCell ⟨c, 1, none⟩ b).setCell ⟨c, 2, none⟩ p).setCell ⟨c, 3, none⟩ x) none := grown_set (grown_set (grown_set (grown_set g h) h) h) h
theorem sizeQ : (Tryz.prog.info? 36).map (·.size) = some 4 := by kernel_rfl
theorem ret_box2 {fn : Func} {p u : Tmp} {tmps : Array Value} {w : World} {c : Nat} {a b q x : Value} (h : fn.results = #[.cell p 36, .tmp u]) (hp : tmps.getD p undef = .pointer (some ⟨c, 0, none⟩)) (hb : Box4 36 w c a b q x) :
  (results fn tmps).run Tryz.prog w = .ok (.tuple #[.agg #[a, b, q, x], tmps.getD u undef]) w := by
 rw [results_cell_tmp h, hp]
 simp only [asAddr, Sem.run_pure, Result.andThen_ok]
 rw [run_loadVar_row w c 36 36 #[a, b, q, x] (0, 0) _ hb Tryz.underlying36 rfl sizeQ]
 rfl
abbrev Cr := ByteArray × Bool × ByteArray × ByteArray
def cellsC : Option Cr → Array Value
 | some c => #[.string c.1, .bool c.2.1, .string c.2.2.1, .string c.2.2.2]
 | none => #[.string ⟨#[]⟩, .bool false, .string ⟨#[]⟩, .string ⟨#[]⟩]
def CertE (w : World) (O : Option Cr) (e : Ending) (w' : World) : Prop := e = .returned (.tuple #[.agg (cellsC O), .bool O.isSome]) ∧ w.grownBy w' none
end Go.Proofs.YtcgiphcfjhbonaaGreatDoor.yb
namespace Go.Proofs.YtcgiphcfjhbonaaGreatDoor.da
open Go.ChangeShapes Go.WideShapes Go.ChangeAt Go.RowKit
open srt (Tab)
open css (tot Sls OwnS)
open cf (Box)
open txt (Pow)
open dec (str)
open cx (cnfT whole)
open cso (srtN srtB srtR srt_tot)
open zo (sumT)
open zk (TabK TabS)
open sl (hide unhide grown_refl grown_trans)
set_option linter.unusedVariables false
def txtL (n : Int) (LL : List (List Int)) : List UInt8 := cnfT (srtN n LL) (srtR n LL)
def digT (n : Int) (LL : List (List Int)) : List UInt8 := if srtB n LL && !(txtL n LL).isEmpty then sumT ⟨(txtL n LL).toArray⟩ else []
theorem txt_len (n : Int) (LL : List (List Int)) : (txtL n LL).length ≤ 12000 := by
 unfold txtL cx.cnfT
 split
 ·rename_i h
  rw [Bool.and_eq_true, decide_eq_true_iff] at h
  exact h.2
 ·exact Nat.zero_le _
theorem empty_list (l : List UInt8) : ((⟨l.toArray⟩ : ByteArray).toList == []) = l.isEmpty := by
 have e : (⟨l.toArray⟩ : ByteArray).toList = l := by
  rw [ByteArray.toList_eq]
 rw [e]
 cases l <;> rfl
set_option maxRecDepth 100000 in
set_option maxHeartbeats 4000000 in
theorem specDigest (v : Value) (n : Int) (LL : List (List Int)) (w : World) (hn : tot LL ≤ 1048576) (hv : Sls w v LL) :
  Calls Tryz.prog 26 #[.agg #[.int .i64 n, v]] w fun e w' => e = .returned (str (digT n LL)) ∧ w.grownBy w' none := by
 have g0 := World.grownBy_alloc w (.cells #[.int .i64 n, v] 32) none
 have F0 := hide (Box.new 32 w (.int .i64 n) v)
 have CS := hide (cso.specCnfSort v n LL _ hn (hv.kept g0))
 have CT := hide (fun u w1 (g : w.grownBy w1 none) (h : Sls w1 u (srtR n LL)) => cx.specCnfText u (srtN n LL) (srtR n LL) w1 (Nat.le_trans (srt_tot n LL) (by decide)) h)
 have CM := hide (fun w1 (g : w.grownBy w1 none) => zp.specSum ⟨(txtL n LL).toArray⟩ w1 (by have := txt_len n LL; show (txtL n LL).toArray.size ≤ _; rw [List.size_toArray]; omega))
 have hE : (digT n LL = if srtB n LL && !(txtL n LL).isEmpty then sumT ⟨(txtL n LL).toArray⟩ else []) := rfl
 have hem := empty_list (txtL n LL)
 have G0 := hide g0
 have x0 := (unhide F0).c0
 have x1 := (unhide F0).c1
 change Hid (∀ u w1, w.grownBy w1 none → Sls w1 u (srtR n LL) → Calls Tryz.prog 77 #[.agg #[.int .i64 (srtN n LL), u]] w1 fun e w' => e = .returned (.string ⟨(txtL n LL).toArray⟩) ∧ w1.grownBy w' none) at CT
 clear hv g0
 generalize srtN n LL = NN at *
 generalize srtB n LL = bb at *
 generalize srtR n LL = RR at *
 generalize (⟨(txtL n LL).toArray⟩ : ByteArray) = BS at *
 generalize sumT BS = SS at *
 generalize txtL n LL = TT at *
 generalize digT n LL = DD at *
 have HE := hide hE
 clear hE
 cases bb
 ·have E0 : Hid (DD = []) := (unhide HE).trans rfl
  clear HE CM hem
  go_enter Tryz.func26, Tryz.ntmps26
  go_wp2_with fail
  refine (unhide CS).mono ?_; rintro e w2 ⟨u2, rfl, o2, g2⟩
  have GZ := grown_trans (r := none) (unhide G0) g2
  obtain ⟨ua, uc, rfl⟩ := o2.len
  have ga := World.grownBy_alloc w2 (.cells #[.int .i64 NN, .slice ua RR.length uc] 32) none
  have C2 := hide (unhide CT _ _ (grown_trans (r := none) GZ ga) (o2.kept ga).sls)
  have G2 := hide (grown_trans (r := none) GZ ga)
  clear o2 g2 ga GZ CT CS x0 x1
  go_wp2_with fail
  refine (unhide C2).mono ?_; rintro e w3 ⟨rfl, g3⟩
  have G3 := hide (grown_trans (r := none) (unhide G2) g3)
  clear g3 C2
  go_wp2_with fail
  go_ret
  exact ⟨by rw [unhide E0]; rfl, unhide G3⟩
 ·cases hT0 : TT.isEmpty
  ·have E0 : Hid (DD = SS) := by show _ = _; rw [unhide HE, hT0]; rfl
   rw [hT0] at hem
   clear HE hT0
   go_enter Tryz.func26, Tryz.ntmps26
   go_wp2_with fail
   refine (unhide CS).mono ?_; rintro e w2 ⟨u2, rfl, o2, g2⟩
   have GZ := grown_trans (r := none) (unhide G0) g2
   obtain ⟨ua, uc, rfl⟩ := o2.len
   have ga := World.grownBy_alloc w2 (.cells #[.int .i64 NN, .slice ua RR.length uc] 32) none
   have C2 := hide (unhide CT _ _ (grown_trans (r := none) GZ ga) (o2.kept ga).sls)
   have G2 := hide (grown_trans (r := none) GZ ga)
   clear o2 g2 ga GZ CT CS x0 x1
   go_wp2_with fail
   refine (unhide C2).mono ?_; rintro e w3 ⟨rfl, g3⟩
   have G3 := hide (grown_trans (r := none) (unhide G2) g3)
   clear g3 C2
   go_wp2_with fail
   refine (unhide CM w3 (unhide G3)).mono ?_; rintro e w4 ⟨rfl, g4⟩
   have G4 := hide (grown_trans (r := none) (unhide G3) g4)
   clear g4 CM
   go_wp2_with fail
   go_ret
   exact ⟨by rw [unhide E0]; rfl, unhide G4⟩
  ·have E0 : Hid (DD = []) := by show _ = _; rw [unhide HE, hT0]; rfl
   rw [hT0] at hem
   clear HE hT0 CM
   go_enter Tryz.func26, Tryz.ntmps26
   go_wp2_with fail
   refine (unhide CS).mono ?_; rintro e w2 ⟨u2, rfl, o2, g2⟩
   have GZ := grown_trans (r := none) (unhide G0) g2
   obtain ⟨ua, uc, rfl⟩ := o2.len
   have ga := World.grownBy_alloc w2 (.cells #[.int .i64 NN, .slice ua RR.length uc] 32) none
   have C2 := hide (unhide CT _ _ (grown_trans (r := none) GZ ga) (o2.kept ga).sls)
   have G2 := hide (grown_trans (r := none) GZ ga)
   clear o2 g2 ga GZ CT CS x0 x1
   go_wp2_with fail
   refine (unhide C2).mono ?_; rintro e w3 ⟨rfl, g3⟩
   have G3 := hide (grown_trans (r := none) (unhide G2) g3)
   clear g3 C2
   go_wp2_with fail
   go_ret
   exact ⟨by rw [unhide E0]; rfl, unhide G3⟩
set_option maxRecDepth 100000 in
set_option maxHeartbeats 4000000 in
theorem implDigest (v : Value) (n : Int) (LL : List (List Int)) (w : World) (hT : Tab w) (hP : Pow w) (hK : TabK w) (hS : TabS w) (hn : tot LL ≤ 1048576) (hv : Sls w v LL) :
  Calls Tryz.prog 20 #[.agg #[.int .i64 n, v]] w fun e w' => e = .returned (str (digT n LL)) ∧ w.grownBy w' none := by
 have g0 := World.grownBy_alloc w (.cells #[.int .i64 n, v] 32) none
 have F0 := hide (Box.new 32 w (.int .i64 n) v)
 have CS := hide (cso.implCnfSort v n LL _ (hT.kept g0) hn (hv.kept g0))
 have CT := hide (fun u w1 (g : w.grownBy w1 none) (h : Sls w1 u (srtR n LL)) => cx.implCnfText u (srtN n LL) (srtR n LL) w1 (hP.kept g) (Nat.le_trans (srt_tot n LL) (by decide)) h)
 have CM := hide (fun w1 (g : w.grownBy w1 none) => zo.implSum ⟨(txtL n LL).toArray⟩ w1 (by have := txt_len n LL; show (txtL n LL).toArray.size ≤ _; rw [List.size_toArray]; omega) (hK.kept g) (hS.kept g))
 have hE : (digT n LL = if srtB n LL && !(txtL n LL).isEmpty then sumT ⟨(txtL n LL).toArray⟩ else []) := rfl
 have hem := empty_list (txtL n LL)
 have G0 := hide g0
 have x0 := (unhide F0).c0
 have x1 := (unhide F0).c1
 change Hid (∀ u w1, w.grownBy w1 none → Sls w1 u (srtR n LL) → Calls Tryz.prog 67 #[.agg #[.int .i64 (srtN n LL), u]] w1 fun e w' => e = .returned (.string ⟨(txtL n LL).toArray⟩) ∧ w1.grownBy w' none) at CT
 clear hv g0 hT hP hK hS
 generalize srtN n LL = NN at *
 generalize srtB n LL = bb at *
 generalize srtR n LL = RR at *
 generalize (⟨(txtL n LL).toArray⟩ : ByteArray) = BS at *
 generalize sumT BS = SS at *
 generalize txtL n LL = TT at *
 generalize digT n LL = DD at *
 have HE := hide hE
 clear hE
 cases bb
 ·have E0 : Hid (DD = []) := (unhide HE).trans rfl
  clear HE CM hem
  go_enter Tryz.func20, Tryz.ntmps20
  go_wp2_with fail
  refine (unhide CS).mono ?_; rintro e w2 ⟨u2, rfl, o2, g2⟩
  have GZ := grown_trans (r := none) (unhide G0) g2
  obtain ⟨ua, uc, rfl⟩ := o2.len
  have ga := World.grownBy_alloc w2 (.cells #[.int .i64 NN, .slice ua RR.length uc] 32) none
  have C2 := hide (unhide CT _ _ (grown_trans (r := none) GZ ga) (o2.kept ga).sls)
  have G2 := hide (grown_trans (r := none) GZ ga)
  clear o2 g2 ga GZ CT CS x0 x1
  go_wp2_with fail
  refine (unhide C2).mono ?_; rintro e w3 ⟨rfl, g3⟩
  have G3 := hide (grown_trans (r := none) (unhide G2) g3)
  clear g3 C2
  go_wp2_with fail
  go_ret
  exact ⟨by rw [unhide E0]; rfl, unhide G3⟩
 ·cases hT0 : TT.isEmpty
  ·have E0 : Hid (DD = SS) := by show _ = _; rw [unhide HE, hT0]; rfl
   rw [hT0] at hem
   clear HE hT0
   go_enter Tryz.func20, Tryz.ntmps20
   go_wp2_with fail
   refine (unhide CS).mono ?_; rintro e w2 ⟨u2, rfl, o2, g2⟩
   have GZ := grown_trans (r := none) (unhide G0) g2
   obtain ⟨ua, uc, rfl⟩ := o2.len
   have ga := World.grownBy_alloc w2 (.cells #[.int .i64 NN, .slice ua RR.length uc] 32) none
   have C2 := hide (unhide CT _ _ (grown_trans (r := none) GZ ga) (o2.kept ga).sls)
   have G2 := hide (grown_trans (r := none) GZ ga)
   clear o2 g2 ga GZ CT CS x0 x1
   go_wp2_with fail
   refine (unhide C2).mono ?_; rintro e w3 ⟨rfl, g3⟩
   have G3 := hide (grown_trans (r := none) (unhide G2) g3)
   clear g3 C2
   go_wp2_with fail
   refine (unhide CM w3 (unhide G3)).mono ?_; rintro e w4 ⟨rfl, g4⟩
   have G4 := hide (grown_trans (r := none) (unhide G3) g4)
   clear g4 CM
   go_wp2_with fail
   go_ret
   exact ⟨by rw [unhide E0]; rfl, unhide G4⟩
  ·have E0 : Hid (DD = []) := by show _ = _; rw [unhide HE, hT0]; rfl
   rw [hT0] at hem
   clear HE hT0 CM
   go_enter Tryz.func20, Tryz.ntmps20
   go_wp2_with fail
   refine (unhide CS).mono ?_; rintro e w2 ⟨u2, rfl, o2, g2⟩
   have GZ := grown_trans (r := none) (unhide G0) g2
   obtain ⟨ua, uc, rfl⟩ := o2.len
   have ga := World.grownBy_alloc w2 (.cells #[.int .i64 NN, .slice ua RR.length uc] 32) none
   have C2 := hide (unhide CT _ _ (grown_trans (r := none) GZ ga) (o2.kept ga).sls)
   have G2 := hide (grown_trans (r := none) GZ ga)
   clear o2 g2 ga GZ CT CS x0 x1
   go_wp2_with fail
   refine (unhide C2).mono ?_; rintro e w3 ⟨rfl, g3⟩
   have G3 := hide (grown_trans (r := none) (unhide G2) g3)
   clear g3 C2
   go_wp2_with fail
   go_ret
   exact ⟨by rw [unhide E0]; rfl, unhide G3⟩
end Go.Proofs.YtcgiphcfjhbonaaGreatDoor.da
namespace Go.Proofs.YtcgiphcfjhbonaaGreatDoor.zr
open Go.ChangeShapes Go.WideShapes Go.ChangeAt Go.RowKit
open sl (hide unhide ret_int ret_bool grown_refl grown_trans grown_drewN)
open zk (TabK TabS)
open ze (bts bts_length)
open zo (sumT sumL out4_length implSum)
open zp (specSum)
open zq (kb kb_length implKey)
open dec (str)
set_option linter.unusedVariables false
set_option maxRecDepth 100000 in
theorem implMac2 (key s : ByteArray) (w : World) (h1 : key.size ≤ 1048576) (h2 : s.size ≤ 2097152) (hK : TabK w) (hS : TabS w) :
  Calls Tryz.prog 57 #[.string key, .string s] w fun r w' => r = .returned (str (macT key s)) ∧ w.grownBy w' none := by
 by_cases h : s.size ≤ 1048576
 ·exact implMac key s w h1 h hK hS
 rw [show macT key s = [] by unfold macT; rw [if_neg (fun q => by omega)]]
 have i2 : (59800 : Int) < (s.size : Int) := by omega
 by_cases k1 : key.size ≤ 64
 ·have i1 : ¬ (64 : Int) < (key.size : Int) := by omega
  go_enter Tryz.func57, Tryz.ntmps57
  go_wp2
  go_ret
  exact ⟨rfl, grown_refl _⟩
 ·have i1 : (64 : Int) < (key.size : Int) := by omega
  go_enter Tryz.func57, Tryz.ntmps57
  go_wp2
  go_ret
  exact ⟨rfl, grown_refl _⟩
set_option maxRecDepth 100000 in
set_option maxHeartbeats 2000000 in
theorem implMacOk2 (key s mark : ByteArray) (w : World) (h1 : key.size ≤ 1048576) (h2 : s.size ≤ 2097152) (hK : TabK w) (hS : TabS w) :
  Calls Tryz.prog 104 #[.string key, .string s, .string mark] w fun r w' => r = .returned (.bool (okM key s mark)) ∧ w.grownBy w' none := by
 have C := hide (implMac2 key s w h1 h2 hK hS)
 unfold okM
 generalize macT key s = X at *
 unfold dec.str at C
 clear hK hS
 go_enter Tryz.func104, Tryz.ntmps104
 go_wp2_with fail
 refine (unhide C).mono ?_; rintro r w1 ⟨rfl, g1⟩
 have G1 := hide g1
 clear g1 C
 go_wp2_with fail
 ·rename_i hX
  go_ret
  exact ⟨ret_bool (by rw [hX]; simp), unhide G1⟩
 ·rename_i hX
  go_ret
  refine ⟨ret_bool ?_, unhide G1⟩
  rw [show mark.toList = bts mark from ByteArray.toList_eq mark, Bool.eq_iff_iff]
  simp [hX]
end Go.Proofs.YtcgiphcfjhbonaaGreatDoor.zr
namespace Go.Proofs.YtcgiphcfjhbonaaGreatDoor.yg
open Go.ChangeShapes Go.WideShapes Go.ChangeAt Go.RowKit
open sl (hide unhide grown_refl grown_trans grown_drewN)
open yb (Box4)
set_option linter.unusedVariables false
def sgB (d : ByteArray) (sat : Bool) (b : ByteArray) : ByteArray := d ++ (if sat then ⟨#[1]⟩ else ⟨#[0]⟩) ++ b
theorem sg_size (d : ByteArray) (sat : Bool) (b : ByteArray) : (sgB d sat b).size = d.size + 1 + b.size := by
 unfold sgB
 rw [ByteArray.size_append, ByteArray.size_append]
 cases sat <;> rfl
set_option maxRecDepth 100000 in
theorem implSigned (d : ByteArray) (sat : Bool) (b m : ByteArray) (w : World) (hd : d.size ≤ 1048576) (hb : b.size ≤ 1048576) :
  Calls Tryz.prog 58 #[.agg #[.string d, .bool sat, .string b, .string m]] w fun e w' => e = .returned (.string (sgB d sat b)) ∧ w.grownBy w' none := by
 have n0 : ¬ 9223372036854775807 < d.size + 1 := by omega
 have n1 : ¬ 9223372036854775807 < d.size + 1 + b.size := by omega
 have G0 := hide (World.grownBy_alloc w (.cells #[.string d, .bool sat, .string b, .string m] 36) none)
 unfold sgB
 cases sat
 ·go_enter Tryz.func58, Tryz.ntmps58
  go_wp2
  go_ret
  exact ⟨rfl, unhide G0⟩
 ·go_enter Tryz.func58, Tryz.ntmps58
  go_wp2
  go_ret
  exact ⟨rfl, unhide G0⟩
end Go.Proofs.YtcgiphcfjhbonaaGreatDoor.yg
namespace Go.Proofs.YtcgiphcfjhbonaaGreatDoor.yh
open ok (cnfB)
open lq (solveL)
open xw (wlk)
set_option linter.unusedVariables false
def refL (n : Int) (LL : List (List Int)) : List (List Int) × Bool := if cnfB n LL then wlk n LL 700 [] else ([], false)
def fnd (n : Int) (LL : List (List Int)) : (List Int ⊕ List (List Int)) × Bool := match solveL n LL [] with
 | some A => (.inl A, true)
 | none => (.inr (refL n LL).1, (refL n LL).2)
end Go.Proofs.YtcgiphcfjhbonaaGreatDoor.yh
namespace Go.Proofs.YtcgiphcfjhbonaaGreatDoor.yi
open lq (solveL)
open as_ (asText)
open pt (prf)
open da (digT)
open zr (macT)
open yb (Cr)
open yg (sgB)
open yh (refL fnd)
open css (tot)
set_option linter.unusedVariables false
def bodyB : List Int ⊕ List (List Int) → ByteArray
 | .inl A => ⟨(asText A).toArray⟩
 | .inr R => ⟨(prf R).toArray⟩
def satB : List Int ⊕ List (List Int) → Bool
 | .inl _ => true
 | .inr _ => false
def markB (key d : ByteArray) (sat : Bool) (b : ByteArray) : ByteArray := ⟨(macT key (sgB d sat b)).toArray⟩
def digB (n : Int) (LL : List (List Int)) : ByteArray := ⟨(digT n LL).toArray⟩
def issO (key : ByteArray) (n : Int) (LL : List (List Int)) : Option Cr :=
 if digT n LL = [] ∨ 64 < key.size ∨ (fnd n LL).2 = false then none
 else some (digB n LL, satB (fnd n LL).1, bodyB (fnd n LL).1, markB key (digB n LL) (satB (fnd n LL).1) (bodyB (fnd n LL).1))
theorem dig_size (n : Int) (LL : List (List Int)) : (digB n LL).size ≤ 1024 := by
 show (digT n LL).toArray.size ≤ _
 rw [List.size_toArray]
 unfold da.digT
 split
 ·exact Nat.le_trans (zr.sumT_len _) (by decide)
 ·exact Nat.zero_le _
theorem body_size (P : List Int ⊕ List (List Int)) : (bodyB P).size ≤ 400000 := by
 cases P with
 | inl A =>
  show (asText A).toArray.size ≤ _
  rw [List.size_toArray]
  unfold as_.asText
  split
  ·exact Nat.le_trans (cx.text_len _) (by decide)
  ·exact Nat.zero_le _
 | inr R =>
  show (prf R).toArray.size ≤ _
  rw [List.size_toArray]
  unfold pt.prf
  split
  ·rename_i h
   rw [Bool.and_eq_true, decide_eq_true_iff] at h
   have := cx.lines_len R
   omega
  ·exact Nat.zero_le _
end Go.Proofs.YtcgiphcfjhbonaaGreatDoor.yi
namespace Go.Proofs.YtcgiphcfjhbonaaGreatDoor.ym
open Go.RowKit Go.Extern.Stop Go.Stop Go.Extern
open sl (hide unhide grown_refl grown_trans)
set_option linter.unusedVariables false
theorem typeOf_ (v : Value) (w : World) : (Extern.ReflectliteType.typeOf #[.iface 271 v]).run Tryz.prog w = .ok (.iface 178 (.agg #[.pointer (some ⟨12, 271, none⟩)])) w := by kernel_rfl
def cmpE := Extern.ReflectliteType.method fun t => do Go.Extern.Rtype.noPackHeld "Comparable" t; pure (.bool (← typeInfo t).comparable)
theorem comparable_ (w : World) : (cmpE #[.agg #[.pointer (some ⟨12, 271, none⟩)]]).run Tryz.prog w = .ok (.bool true) w := by kernel_rfl
theorem methodC (v : Value) (w : World) : (Go.method 413 178 v "Comparable").run Tryz.prog w = .ok (279, v) w := by kernel_rfl
theorem isComp : (Tryz.prog.info? 271).map (·.comparable) = some true := by kernel_rfl
theorem isSize : (Tryz.prog.info? 273).map (·.size) = some 1 := by kernel_rfl
theorem noIsE (v : Value) (xT : TypeId) (w : World) : (Instr.typeAssert (.iface 271 v) xT 180 true).run Tryz.prog w = .ok (.tuple #[.nilIface, .bool false]) w := run_typeAssert_lacksB Tryz.underlying180 (by kernel_rfl) (by kernel_rfl) v xT w
theorem noUnE (v : Value) (xT : TypeId) (w : World) : (Instr.typeAssert (.iface 271 v) xT 183 true).run Tryz.prog w = .ok (.tuple #[.nilIface, .bool false]) w := run_typeAssert_lacksB Tryz.underlying183 (by kernel_rfl) (by kernel_rfl) v xT w
theorem noUsE (v : Value) (xT : TypeId) (w : World) : (Instr.typeAssert (.iface 271 v) xT 185 true).run Tryz.prog w = .ok (.tuple #[.nilIface, .bool false]) w := run_typeAssert_lacksB Tryz.underlying185 (by kernel_rfl) (by kernel_rfl) v xT w
theorem noIsR (v : Value) (xT : TypeId) (w : World) : (Instr.typeAssert (.iface 176 v) xT 180 true).run Tryz.prog w = .ok (.tuple #[.nilIface, .bool false]) w := run_typeAssert_lacksB Tryz.underlying180 (by kernel_rfl) (by kernel_rfl) v xT w
theorem hasUn (v : Value) (xT : TypeId) (w : World) : (Instr.typeAssert (.iface 176 v) xT 183 true).run Tryz.prog w = .ok (.tuple #[.iface 176 v, .bool true]) w := run_typeAssert_hasB Tryz.underlying183 (by kernel_rfl) v xT w
theorem methodU (v : Value) (w : World) : (Go.method 413 176 v "Unwrap").run Tryz.prog w = .ok (275, v) w := by kernel_rfl
set_option maxRecDepth 100000 in
theorem unwrap (c x : Value) (w : World) : Calls Tryz.prog 275 #[.agg #[c, x]] w fun e w' => e = .returned x ∧ w.grownBy w' none := by
 have G0 := hide (World.grownBy_alloc w (.cells #[c, x] 176) none)
 go_enter Tryz.func275, Tryz.ntmps275
 go_wp2
 go_ret
 exact ⟨rfl, unhide G0⟩
set_option maxRecDepth 100000 in
theorem isNil (b : Addr) (w : World) :
  Calls Tryz.prog 64 #[.nilIface, .iface 271 (.pointer (some b))] w fun e w' => e = .returned (.bool false) ∧ w' = w := by
 have hn := run_eql_iface_nil_left (P := Tryz.prog) w 271 (.pointer (some b)) Tryz.underlying68
 go_enter Tryz.func64, Tryz.ntmps64
 go_wp2
 go_ret
 exact ⟨rfl, rfl⟩
def Two (w : World) (a b : Addr) : Prop := a ≠ b ∧ (∃ ca ta, w.heap[a.block]? = some (.cells ca ta (0, 0))) ∧ ∃ cb tb, w.heap[b.block]? = some (.cells cb tb (0, 0))
set_option maxRecDepth 100000 in
set_option maxHeartbeats 2000000 in
theorem loopYes (c : Int) (b : Addr) (w : World) :
  Calls Tryz.prog 108 #[.iface 176 (.agg #[.int .i64 c, .iface 271 (.pointer (some b))]), .iface 271 (.pointer (some b)), .bool true] w fun e w' => e = .returned (.bool true) ∧ w.grownBy w' none := by
 obtain ⟨i, hi, hcmp⟩ := Option.map_eq_some_iff.1 isComp
 obtain ⟨j, hj, hjs⟩ := Option.map_eq_some_iff.1 isSize
 have nE := noIsE
 have uE := noUnE
 have vE := noUsE
 have nW := noIsR
 have uW := hasUn
 have mU := methodU
 have heq := fun w => run_eql_iface_ptr_same (P := Tryz.prog) w b Tryz.underlying68 Tryz.underlying271 hi hcmp hj
 have hty := fun w => run_eql_iface_types (P := Tryz.prog) 176 271 (.agg #[.int .i64 c, .iface 271 (.pointer (some b))]) (.pointer (some b)) Tryz.underlying68 (by decide) w
 go_enter Tryz.func108, Tryz.ntmps108
 go_wp2
 refine wp_loop_rounds 2 ?_
 rw [rounds_succ]
 go_wp2_with fail
 refine (unwrap _ _ _).mono ?_; rintro e w1 ⟨rfl, g1⟩
 have G1 := hide g1
 have HQ := heq w1
 clear g1 heq hty
 go_wp2_with fail
 rw [rounds_succ]
 go_wp2_with fail
 go_ret
 exact ⟨rfl, unhide G1⟩
theorem Two.kept {w w' : World} {a b : Addr} (h : Two w a b) (g : w.grownBy w' none) : Two w' a b := by
 obtain ⟨h0, ⟨ca, ta, h1⟩, cb, tb, h2⟩ := h
 exact ⟨h0, ⟨ca, ta, (g.block _ (Array.getElem?_eq_some_iff.1 h1).1 (fun e => by cases e)).trans h1⟩, cb, tb, (g.block _ (Array.getElem?_eq_some_iff.1 h2).1 (fun e => by cases e)).trans h2⟩
set_option maxRecDepth 100000 in
set_option maxHeartbeats 2000000 in
theorem loopNo (c : Int) (a b : Addr) (w : World) (h : Two w a b) :
  Calls Tryz.prog 108 #[.iface 176 (.agg #[.int .i64 c, .iface 271 (.pointer (some a))]), .iface 271 (.pointer (some b)), .bool true] w fun e w' => e = .returned (.bool false) ∧ w.grownBy w' none := by
 obtain ⟨i, hi, hcmp⟩ := Option.map_eq_some_iff.1 isComp
 obtain ⟨j, hj, hjs⟩ := Option.map_eq_some_iff.1 isSize
 have nE := noIsE
 have uE := noUnE
 have vE := noUsE
 have nW := noIsR
 have uW := hasUn
 have mU := methodU
 have heq : ∀ w1, w.grownBy w1 none → (binOp .eql 68 (.iface 271 (.pointer (some a))) (.iface 271 (.pointer (some b)))).run Tryz.prog w1 = .ok (.bool false) w1 := fun w1 (g : w.grownBy w1 none) => by
  obtain ⟨hne, ⟨ca, ta, ha⟩, cb, tb, hb⟩ := h.kept g
  exact run_eql_iface_ptr_other (P := Tryz.prog) w1 Tryz.underlying68 Tryz.underlying271 hi hcmp hj (by rw [hjs]; decide) hne ha hb
 have hty := fun w => run_eql_iface_types (P := Tryz.prog) 176 271 (.agg #[.int .i64 c, .iface 271 (.pointer (some a))]) (.pointer (some b)) Tryz.underlying68 (by decide) w
 go_enter Tryz.func108, Tryz.ntmps108
 go_wp2
 refine wp_loop_rounds 2 ?_
 rw [rounds_succ]
 go_wp2_with fail
 refine (unwrap _ _ _).mono ?_; rintro e w1 ⟨rfl, g1⟩
 have G1 := hide g1
 have HQ := heq w1 g1
 clear g1 heq hty
 go_wp2_with fail
 rw [rounds_succ]
 go_wp2_with fail
 go_ret
 exact ⟨rfl, unhide G1⟩
set_option maxRecDepth 100000 in
set_option maxHeartbeats 2000000 in
theorem isYes (c : Int) (b : Addr) (w : World) :
  Calls Tryz.prog 64 #[.iface 176 (.agg #[.int .i64 c, .iface 271 (.pointer (some b))]), .iface 271 (.pointer (some b))] w fun e w' => e = .returned (.bool true) ∧ w.grownBy w' none := by
 have h8 := @run_callFunc_extern Tryz.prog 107 _ Extern.ReflectliteType.typeOf Tryz.func107 (by kernel_rfl) (by kernel_rfl) (by kernel_rfl) (by kernel_rfl)
 have h32 := @run_callFunc_extern Tryz.prog 279 _ cmpE Tryz.func279 (by kernel_rfl) (by kernel_rfl) (by kernel_rfl) (by kernel_rfl)
 have tT := typeOf_
 have cT := comparable_
 have mR := methodC
 have CL := hide (loopYes c b w)
 go_enter Tryz.func64, Tryz.ntmps64
 go_wp2_with fail
 refine (unhide CL).mono ?_; rintro e w1 ⟨rfl, g1⟩
 have G1 := hide g1
 clear g1
 go_wp2_with fail
 go_ret
 exact ⟨rfl, unhide G1⟩
set_option maxRecDepth 100000 in
set_option maxHeartbeats 2000000 in
theorem isNo (c : Int) (a b : Addr) (w : World) (h : Two w a b) :
  Calls Tryz.prog 64 #[.iface 176 (.agg #[.int .i64 c, .iface 271 (.pointer (some a))]), .iface 271 (.pointer (some b))] w fun e w' => e = .returned (.bool false) ∧ w.grownBy w' none := by
 have h8 := @run_callFunc_extern Tryz.prog 107 _ Extern.ReflectliteType.typeOf Tryz.func107 (by kernel_rfl) (by kernel_rfl) (by kernel_rfl) (by kernel_rfl)
 have h32 := @run_callFunc_extern Tryz.prog 279 _ cmpE Tryz.func279 (by kernel_rfl) (by kernel_rfl) (by kernel_rfl) (by kernel_rfl)
 have tT := typeOf_
 have cT := comparable_
 have mR := methodC
 have CL := hide (loopNo c a b w h)
 go_enter Tryz.func64, Tryz.ntmps64
 go_wp2_with fail
 refine (unhide CL).mono ?_; rintro e w1 ⟨rfl, g1⟩
 have G1 := hide g1
 clear g1
 go_wp2_with fail
 go_ret
 exact ⟨rfl, unhide G1⟩
end Go.Proofs.YtcgiphcfjhbonaaGreatDoor.ym
namespace Go.Proofs.YtcgiphcfjhbonaaGreatDoor.yn
open Go.ChangeShapes Go.WideShapes Go.ChangeAt Go.RowKit
open sl (hide unhide grown_refl grown_trans)
open ym (Two)
set_option linter.unusedVariables false
structure Errs (w : World) (a1 a2 a3 a4 : Addr) : Prop where
 e1 : w.cell? ⟨0, 0, none⟩ = some (.iface 271 (.pointer (some a1)))
 e2 : w.cell? ⟨1, 0, none⟩ = some (.iface 271 (.pointer (some a2)))
 e3 : w.cell? ⟨2, 0, none⟩ = some (.iface 271 (.pointer (some a3)))
 e4 : w.cell? ⟨3, 0, none⟩ = some (.iface 271 (.pointer (some a4)))
 t12 : Two w a1 a2
 t13 : Two w a1 a3
 t14 : Two w a1 a4
 t23 : Two w a2 a3
 t24 : Two w a2 a4
 t34 : Two w a3 a4
theorem Two.symm {w : World} {a b : Addr} (h : Two w a b) : Two w b a := ⟨h.1.symm, h.2.2, h.2.1⟩
theorem Errs.kept {w w' : World} {a1 a2 a3 a4 : Addr} (h : Errs w a1 a2 a3 a4) (g : w.grownBy w' none) : Errs w' a1 a2 a3 a4 :=
 ⟨g.cell h.e1 (fun e => by cases e), g.cell h.e2 (fun e => by cases e), g.cell h.e3 (fun e => by cases e), g.cell h.e4 (fun e => by cases e), h.t12.kept g, h.t13.kept g, h.t14.kept g, h.t23.kept g, h.t24.kept g, h.t34.kept g⟩
def pick (a1 a2 a3 a4 : Addr) (k : Nat) : Addr := if k = 1 then a1 else if k = 2 then a2 else if k = 3 then a3 else a4
set_option maxRecDepth 100000 in
theorem reason1 {a1 a2 a3 a4 : Addr} (w : World) (h : Errs w a1 a2 a3 a4) : Calls Tryz.prog 65 #[.int .i64 1] w fun e w' => e = .returned (.iface 271 (.pointer (some a1))) ∧ w' = w := by
 have c := h.e1
 clear h
 go_enter Tryz.func65, Tryz.ntmps65
 go_wp2
 go_ret
 exact ⟨rfl, rfl⟩
set_option maxRecDepth 100000 in
theorem refuse1 {a1 a2 a3 a4 : Addr} (w : World) (h : Errs w a1 a2 a3 a4) : Calls Tryz.prog 105 #[.int .i64 1] w fun e w' => e = .returned (.iface 176 (.agg #[.int .i64 1, .iface 271 (.pointer (some a1))])) ∧ w' = w := by
 have C := hide (reason1 w h)
 clear h
 go_enter Tryz.func105, Tryz.ntmps105
 go_wp2_with fail
 refine (unhide C).mono ?_; rintro e w1 ⟨rfl, hw⟩; have hw' := hw.symm; clear hw; subst hw'
 go_wp2_with fail
 go_ret
 exact ⟨rfl, rfl⟩
set_option maxRecDepth 100000 in
theorem reason2 {a1 a2 a3 a4 : Addr} (w : World) (h : Errs w a1 a2 a3 a4) : Calls Tryz.prog 65 #[.int .i64 2] w fun e w' => e = .returned (.iface 271 (.pointer (some a2))) ∧ w' = w := by
 have c := h.e2
 clear h
 go_enter Tryz.func65, Tryz.ntmps65
 go_wp2
 go_ret
 exact ⟨rfl, rfl⟩
set_option maxRecDepth 100000 in
theorem refuse2 {a1 a2 a3 a4 : Addr} (w : World) (h : Errs w a1 a2 a3 a4) : Calls Tryz.prog 105 #[.int .i64 2] w fun e w' => e = .returned (.iface 176 (.agg #[.int .i64 2, .iface 271 (.pointer (some a2))])) ∧ w' = w := by
 have C := hide (reason2 w h)
 clear h
 go_enter Tryz.func105, Tryz.ntmps105
 go_wp2_with fail
 refine (unhide C).mono ?_; rintro e w1 ⟨rfl, hw⟩; have hw' := hw.symm; clear hw; subst hw'
 go_wp2_with fail
 go_ret
 exact ⟨rfl, rfl⟩
set_option maxRecDepth 100000 in
theorem reason3 {a1 a2 a3 a4 : Addr} (w : World) (h : Errs w a1 a2 a3 a4) : Calls Tryz.prog 65 #[.int .i64 3] w fun e w' => e = .returned (.iface 271 (.pointer (some a3))) ∧ w' = w := by
 have c := h.e3
 clear h
 go_enter Tryz.func65, Tryz.ntmps65
 go_wp2
 go_ret
 exact ⟨rfl, rfl⟩
set_option maxRecDepth 100000 in
theorem refuse3 {a1 a2 a3 a4 : Addr} (w : World) (h : Errs w a1 a2 a3 a4) : Calls Tryz.prog 105 #[.int .i64 3] w fun e w' => e = .returned (.iface 176 (.agg #[.int .i64 3, .iface 271 (.pointer (some a3))])) ∧ w' = w := by
 have C := hide (reason3 w h)
 clear h
 go_enter Tryz.func105, Tryz.ntmps105
 go_wp2_with fail
 refine (unhide C).mono ?_; rintro e w1 ⟨rfl, hw⟩; have hw' := hw.symm; clear hw; subst hw'
 go_wp2_with fail
 go_ret
 exact ⟨rfl, rfl⟩
set_option maxRecDepth 100000 in
theorem reason4 {a1 a2 a3 a4 : Addr} (w : World) (h : Errs w a1 a2 a3 a4) : Calls Tryz.prog 65 #[.int .i64 4] w fun e w' => e = .returned (.iface 271 (.pointer (some a4))) ∧ w' = w := by
 have c := h.e4
 clear h
 go_enter Tryz.func65, Tryz.ntmps65
 go_wp2
 go_ret
 exact ⟨rfl, rfl⟩
set_option maxRecDepth 100000 in
theorem refuse4 {a1 a2 a3 a4 : Addr} (w : World) (h : Errs w a1 a2 a3 a4) : Calls Tryz.prog 105 #[.int .i64 4] w fun e w' => e = .returned (.iface 176 (.agg #[.int .i64 4, .iface 271 (.pointer (some a4))])) ∧ w' = w := by
 have C := hide (reason4 w h)
 clear h
 go_enter Tryz.func105, Tryz.ntmps105
 go_wp2_with fail
 refine (unhide C).mono ?_; rintro e w1 ⟨rfl, hw⟩; have hw' := hw.symm; clear hw; subst hw'
 go_wp2_with fail
 go_ret
 exact ⟨rfl, rfl⟩
def ans (a1 a2 a3 a4 : Addr) (k : Nat) : Value := if k = 0 then .nilIface else .iface 176 (.agg #[.int .i64 (k : Int), .iface 271 (.pointer (some (pick a1 a2 a3 a4 k)))])
theorem asked {a1 a2 a3 a4 : Addr} (w : World) (h : Errs w a1 a2 a3 a4) (k j : Nat) (hk : k ≤ 4) (hj : 1 ≤ j ∧ j ≤ 4) :
  Calls Tryz.prog 64 #[ans a1 a2 a3 a4 k, .iface 271 (.pointer (some (pick a1 a2 a3 a4 j)))] w fun e w' => e = .returned (.bool (decide (k = j))) ∧ w.grownBy w' none := by
 by_cases hz : k = 0
 ·subst hz
  rw [decide_eq_false (by omega)]
  refine (ym.isNil _ w).mono ?_
  rintro e w' ⟨rfl, rfl⟩
  exact ⟨rfl, grown_refl _⟩
 ·unfold ans
  rw [if_neg hz]
  by_cases e : k = j
  ·subst e
   rw [decide_eq_true rfl]
   exact ym.isYes _ _ w
  ·rw [decide_eq_false e]
   refine ym.isNo _ _ _ w ?_
   have hk' : k = 1 ∨ k = 2 ∨ k = 3 ∨ k = 4 := by omega
   have hj' : j = 1 ∨ j = 2 ∨ j = 3 ∨ j = 4 := by omega
   rcases hk' with rfl | rfl | rfl | rfl <;> rcases hj' with rfl | rfl | rfl | rfl <;> first
    | exact absurd rfl e
    | exact h.t12 | exact h.t13 | exact h.t14 | exact h.t23 | exact h.t24 | exact h.t34
    | exact Two.symm h.t12 | exact Two.symm h.t13 | exact Two.symm h.t14 | exact Two.symm h.t23 | exact Two.symm h.t24 | exact Two.symm h.t34
theorem reason {a1 a2 a3 a4 : Addr} (w : World) (h : Errs w a1 a2 a3 a4) (j : Nat) (hj : 1 ≤ j ∧ j ≤ 4) :
  Calls Tryz.prog 65 #[.int .i64 (j : Int)] w fun e w' => e = .returned (.iface 271 (.pointer (some (pick a1 a2 a3 a4 j)))) ∧ w' = w := by
 have hj' : j = 1 ∨ j = 2 ∨ j = 3 ∨ j = 4 := by omega
 rcases hj' with rfl | rfl | rfl | rfl
 ·exact reason1 w h
 ·exact reason2 w h
 ·exact reason3 w h
 ·exact reason4 w h
end Go.Proofs.YtcgiphcfjhbonaaGreatDoor.yn
namespace Go.Proofs.YtcgiphcfjhbonaaGreatDoor.yv
open da (digT)
open zr (okM)
open yg (sgB)
open ra (raB raL)
open tr (trueB)
open xe (checkB)
open rq (RP ListE)
open css (tot OwnS)
set_option linter.unusedVariables false
def vfC (key : ByteArray) (n : Int) (LL : List (List Int)) (d : ByteArray) (sat : Bool) (b m : ByteArray) (O : Option (List (List Int))) : Nat :=
 if okM key (sgB d sat b) m = false then 1
 else if digT n LL = [] ∨ rd.bytes d ≠ digT n LL then 2
 else if sat = true then (if raB (rd.bytes b) n = false then 3 else if trueB n LL (raL (rd.bytes b) n) = false then 4 else 0)
 else (if O.isSome = false then 3 else if checkB n LL (O.getD []) = false then 4 else 0)
theorem vf_le (key : ByteArray) (n : Int) (LL : List (List Int)) (d : ByteArray) (sat : Bool) (b m : ByteArray) (O : Option (List (List Int))) : vfC key n LL d sat b m O ≤ 4 := by
 unfold vfC
 repeat' split
 all_goals decide
theorem rp_ex (s : ByteArray) : ∃ O, RP (rd.bytes s) O := by
 by_cases q : ∃ LL : List (List Int), LL.all cls.okAll = true ∧ LL.length ≤ 700 ∧ cx.lines LL = rd.bytes s
 ·obtain ⟨LL, a, b, c⟩ := q
  exact ⟨some LL, .inl ⟨LL, rfl, a, b, c⟩⟩
 ·exact ⟨none, .inr ⟨rfl, fun M a b c => q ⟨M, a, b, c⟩⟩⟩
theorem rp_tot {s : List UInt8} {O : Option (List (List Int))} (h : RP s O) : tot (O.getD []) ≤ 1048576 := by
 rcases h with ⟨A, rfl, a1, a2, a3⟩ | ⟨rfl, a⟩
 ·have := rq.tot_ok a1
  show tot A ≤ _
  omega
 ·exact Nat.zero_le _
theorem ra_len (s : List UInt8) (n : Int) : (raL s n).length ≤ 48 := by
 unfold ra.raL
 split
 ·have := rd.read_len s
  rw [ra.bits_len]
  exact this
 ·exact Nat.zero_le _
theorem implRead {s : ByteArray} {O : Option (List (List Int))} (hO : RP (rd.bytes s) O) (hs : s.size ≤ 1048576) (w : World) (hE : rd.Env w) : Calls Tryz.prog 12 #[.string s] w fun e w' => ListE w O e w' := by
 refine (rq.implReadProof s w hE hs).mono ?_
 rintro e w' ⟨P, hP, h⟩
 rw [hO.one hP]
 exact h
end Go.Proofs.YtcgiphcfjhbonaaGreatDoor.yv
namespace Go.Proofs.YtcgiphcfjhbonaaGreatDoor.yo
open Go.ChangeShapes Go.WideShapes Go.ChangeAt Go.RowKit
open srt (Tab)
open css (tot Sls OwnS)
open cf (Box)
open wo (Made)
open zk (TabK TabS)
open da (digT)
open zr (okM)
open yb (Box4)
open yg (sgB)
open ra (raB raL)
open tr (trueB)
open xe (checkB)
open rq (RP ListE)
open yv (vfC)
open yn (Errs ans pick)
open sl (Sl hide unhide grown_refl grown_trans grown_drewN)
set_option linter.unusedVariables false
structure Env (w : World) (a1 a2 a3 a4 : Addr) : Prop where
 tab : Tab w
 env : rd.Env w
 k : TabK w
 s : TabS w
 errs : Errs w a1 a2 a3 a4
theorem Env.kept {w w' : World} {a1 a2 a3 a4 : Addr} (h : Env w a1 a2 a3 a4) (g : w.grownBy w' none) : Env w' a1 a2 a3 a4 := ⟨h.tab.kept g, h.env.kept g, h.k.kept g, h.s.kept g, h.errs.kept g⟩
set_option maxRecDepth 100000 in
theorem holdsT (u v : Value) (n : Int) (LL : List (List Int)) (A : List Int) (w : World) (hn : tot LL ≤ 1048576) (hA : A.length ≤ 1048576) (hv : Sls w v LL) (hu : Sl w u A) :
  Calls Tryz.prog 261 #[.agg #[u], .agg #[.int .i64 n, v]] w fun e w' => e = .returned (.bool (trueB n LL A)) ∧ w.grownBy w' none := by
 have g0 := grown_trans (r := none) (World.grownBy_alloc w (.cells #[u] 129) none) (World.grownBy_alloc _ (.cells #[.int .i64 n, v] 32) none)
 have C := hide (tr.implCnfTrue v u n LL A _ hn hA (hv.kept g0) (hu.kept g0 (.inl rfl)))
 have G0 := hide g0
 clear g0
 go_enter Tryz.func261, Tryz.ntmps261
 go_wp2_with fail
 refine (unhide C).mono ?_; rintro e w1 ⟨rfl, g1⟩
 have G1 := hide (grown_trans (r := none) (unhide G0) g1)
 clear g1 C G0
 go_wp2_with fail
 go_ret
 exact ⟨rfl, unhide G1⟩
set_option maxRecDepth 100000 in
theorem holdsR (u v : Value) (n : Int) (LL PP : List (List Int)) (w : World) (hT : Tab w) (hn : tot LL ≤ 1048576) (hP : tot PP ≤ 1048576) (hv : Sls w v LL) (hu : Sls w u PP) :
  Calls Tryz.prog 270 #[.agg #[u], .agg #[.int .i64 n, v]] w fun e w' => e = .returned (.bool (checkB n LL PP)) ∧ w.grownBy w' none := by
 have g0 := grown_trans (r := none) (World.grownBy_alloc w (.cells #[u] 131) none) (World.grownBy_alloc _ (.cells #[.int .i64 n, v] 32) none)
 have C := hide (xe.implCheck v u n LL PP _ (hT.kept g0) hn hP (hv.kept g0) (hu.kept g0))
 have G0 := hide g0
 clear g0
 go_enter Tryz.func270, Tryz.ntmps270
 go_wp2_with fail
 refine (unhide C).mono ?_; rintro e w1 ⟨rfl, g1⟩
 have G1 := hide (grown_trans (r := none) (unhide G0) g1)
 clear g1 C G0
 go_wp2_with fail
 go_ret
 exact ⟨rfl, unhide G1⟩
theorem methodT (v : Value) (w : World) : (Go.method 413 129 v "loop.example/g00123/impl.holds").run Tryz.prog w = .ok (261, v) w := by kernel_rfl
theorem methodR (v : Value) (w : World) : (Go.method 413 131 v "loop.example/g00123/impl.holds").run Tryz.prog w = .ok (270, v) w := by kernel_rfl
set_option maxRecDepth 100000 in
set_option maxHeartbeats 2000000 in
theorem readT (d b m : ByteArray) (n : Int) (w : World) (hb : b.size ≤ 1048576) (hE : rd.Env w) :
  Calls Tryz.prog 106 #[.agg #[.string d, .bool true, .string b, .string m], .int .i64 n] w fun e w' => ∃ a c, e = .returned (.tuple #[.iface 129 (.agg #[.slice a (raL (rd.bytes b) n).length c]), .bool (raB (rd.bytes b) n)]) ∧ Made w w' (.slice a (raL (rd.bytes b) n).length c) (raL (rd.bytes b) n) := by
 have g0 := World.grownBy_alloc w (.cells #[.string d, .bool true, .string b, .string m] 36) none
 have CA := hide (ra.implReadAssign b n _ (hE.kept g0) hb)
 have G0 := hide g0
 clear g0 hE hb
 generalize raL (rd.bytes b) n = A at *
 generalize raB (rd.bytes b) n = ok at *
 go_enter Tryz.func106, Tryz.ntmps106
 go_wp2_with fail
 refine (unhide CA).mono ?_; rintro e w1 ⟨r, rfl, m1⟩
 obtain ⟨ra_, rc, er, _⟩ := sl.Sl.of_own m1.1
 subst er
 have R1 : Hid (Made w w1 (.slice ra_ A.length rc) A) := ⟨css.own_mono m1.1 (unhide G0).size, grown_trans (unhide G0) m1.2⟩
 clear m1 CA G0
 go_wp2_with fail
 go_ret2
 exact ⟨_, _, rfl, unhide R1⟩
set_option maxRecDepth 100000 in
set_option maxHeartbeats 2000000 in
theorem readF (d b m : ByteArray) (n : Int) (O : Option (List (List Int))) (w : World) (hO : RP (rd.bytes b) O) (hb : b.size ≤ 1048576) (hE : rd.Env w) :
  Calls Tryz.prog 106 #[.agg #[.string d, .bool false, .string b, .string m], .int .i64 n] w fun e w' => ∃ a c, e = .returned (.tuple #[.iface 131 (.agg #[.slice a (O.getD []).length c]), .bool O.isSome]) ∧ OwnS w.heap.size w'.heap.size w' (.slice a (O.getD []).length c) (O.getD []) ∧ w.grownBy w' none := by
 have g0 := World.grownBy_alloc w (.cells #[.string d, .bool false, .string b, .string m] 36) none
 have CP := hide (yv.implRead hO hb _ (hE.kept g0))
 have G0 := hide g0
 unfold rq.ListE at CP
 clear g0 hE hO hb
 generalize O.isSome = oq at *
 generalize O.getD [] = P at *
 go_enter Tryz.func106, Tryz.ntmps106
 go_wp2_with fail
 refine (unhide CP).mono ?_; rintro e w1 ⟨r, rfl, o1, g1⟩
 obtain ⟨ra_, rc, rfl⟩ := o1.len
 have R1 := hide (And.intro (o1.sub (unhide G0).size (Nat.le_refl _)) (grown_trans (r := none) (unhide G0) g1))
 clear o1 g1 CP G0
 go_wp2_with fail
 go_ret2
 exact ⟨_, _, rfl, unhide R1⟩
def VerE (w : World) (a1 a2 a3 a4 : Addr) (k : Nat) (e : Ending) (w' : World) : Prop := e = .returned (ans a1 a2 a3 a4 k) ∧ w.grownBy w' none
set_option maxRecDepth 100000 in
set_option maxHeartbeats 8000000 in
theorem verify {a1 a2 a3 a4 : Addr} (key : ByteArray) (v : Value) (n : Int) (LL : List (List Int)) (d : ByteArray) (sat : Bool) (b m : ByteArray) (O : Option (List (List Int))) (w : World) (hk : key.size ≤ 1048576) (hE : Env w a1 a2 a3 a4) (hn : tot LL ≤ 1048576) (hv : Sls w v LL) (hO : RP (rd.bytes b) O) (hd : d.size ≤ 1048576) (hb : b.size ≤ 1048576) (hdb : d.size + b.size ≤ 1048576) :
  Calls Tryz.prog 63 #[.string key, .agg #[.int .i64 n, v], .agg #[.string d, .bool sat, .string b, .string m]] w fun e w' => VerE w a1 a2 a3 a4 (vfC key n LL d sat b m O) e w' := by
 have g0 := grown_trans (r := none) (World.grownBy_alloc w (.cells #[.int .i64 n, v] 32) none) (World.grownBy_alloc _ (.cells #[.string d, .bool sat, .string b, .string m] 36) none)
 have F0 := hide ((Box.new 32 w (.int .i64 n) v).kept (World.grownBy_alloc _ (.cells #[.string d, .bool sat, .string b, .string m] 36) none))
 have B0 := Box4.new 36 (w.alloc (.cells #[.int .i64 n, v] 32)) (.string d) (.bool sat) (.string b) (.string m)
 rw [World.size_alloc] at B0
 have HB0 := hide B0
 have CG := hide (fun w1 => yg.implSigned d sat b m w1 hd hb)
 have hsz : (sgB d sat b).size ≤ 2097152 := by rw [yg.sg_size]; omega
 have CM := hide (fun w1 (g : w.grownBy w1 none) => zr.implMacOk2 key (sgB d sat b) m w1 hk hsz (hE.kept g).k (hE.kept g).s)
 have CD := hide (fun w1 (g : w.grownBy w1 none) => da.implDigest v n LL w1 (hE.kept g).tab (hE.kept g).env.pow (hE.kept g).k (hE.kept g).s hn (hv.kept g))
 have CT := hide (fun w1 (g : w.grownBy w1 none) => readT d b m n w1 hb (hE.kept g).env)
 have CF := hide (fun w1 (g : w.grownBy w1 none) => readF d b m n O w1 hO hb (hE.kept g).env)
 have hra := yv.ra_len (rd.bytes b) n
 have hro := yv.rp_tot hO
 have HH := hide (fun A (hA : A.length ≤ 48) u w1 (g : w.grownBy w1 none) (hu : Sl w1 u A) => holdsT u v n LL A w1 hn (by omega) (hv.kept g) hu)
 have HR := hide (fun P (hP : tot P ≤ 1048576) u w1 (g : w.grownBy w1 none) (hu : Sls w1 u P) => holdsR u v n LL P w1 (hE.kept g).tab hn hP (hv.kept g) hu)
 have HT := hide hE
 have G0 := hide g0
 obtain ⟨W0, hW0⟩ : ∃ W0, W0 = (w.alloc (.cells #[.int .i64 n, v] 32)).alloc (.cells #[.string d, .bool sat, .string b, .string m] 36) := ⟨_, rfl⟩
 rw [← hW0] at F0 HB0 G0
 have hem := da.empty_list (digT n LL)
 have hdq : ((⟨(digT n LL).toArray⟩ : ByteArray).toList) = digT n LL := by rw [rd.toList_bytes]; rfl
 have hdd : d.toList = rd.bytes d := rd.toList_bytes d
 unfold dec.str at CD
 have HI : vfC key n LL d sat b m O = if okM key (sgB d sat b) m = false then 1
  else if digT n LL = [] ∨ rd.bytes d ≠ digT n LL then 2
  else if sat = true then (if raB (rd.bytes b) n = false then 3 else if trueB n LL (raL (rd.bytes b) n) = false then 4 else 0)
  else (if O.isSome = false then 3 else if checkB n LL (O.getD []) = false then 4 else 0) := rfl
 generalize vfC key n LL d sat b m O = K at *
 generalize okM key (sgB d sat b) m = okm at *
 generalize sgB d sat b = sg at *
 generalize (⟨(digT n LL).toArray⟩ : ByteArray) = D at *
 generalize digT n LL = DT at *
 generalize raL (rd.bytes b) n = A at *
 generalize raB (rd.bytes b) n = okr at *
 generalize O.isSome = okp at *
 generalize O.getD [] = P at *
 have HIK := hide HI
 have HEM := hide hem
 have HDQ := hide hdq
 have HDD := hide hdd
 clear g0 hE B0 hO HI hem hdq hdd hsz hdb hd hb
 go_enter Tryz.func63, Tryz.ntmps63
 go_upto_region 1 with fail
 rw [← hW0]
 clear hW0
 have GX := hide (grown_drewN W0 1)
 have CK : Hid (∀ w', W0.grownBy w' none → w'.cell? ⟨w.heap.size + 1, 0, none⟩ = some (.string d) ∧ w'.cell? ⟨w.heap.size + 1, 1, none⟩ = some (.bool sat) ∧ w'.cell? ⟨w.heap.size + 1, 2, none⟩ = some (.string b) ∧ w'.cell? ⟨w.heap.size + 1, 3, none⟩ = some (.string m)) := fun w' g => ⟨((unhide HB0).kept g).c0, ((unhide HB0).kept g).c1, ((unhide HB0).kept g).c2, ((unhide HB0).kept g).c3⟩
 have CM' := hide (fun w1 (g : W0.grownBy w1 none) => unhide CM w1 (grown_trans (r := none) (unhide G0) g))
 obtain ⟨k0, k1, k2, k3⟩ := unhide CK _ (grown_refl _)
 go_region_held3 (fun w' => w'.cell? ⟨w.heap.size + 1, 0, none⟩ = some (.string d) ∧ w'.cell? ⟨w.heap.size + 1, 1, none⟩ = some (.bool sat) ∧ w'.cell? ⟨w.heap.size + 1, 2, none⟩ = some (.string b) ∧ w'.cell? ⟨w.heap.size + 1, 3, none⟩ = some (.string m)) (go_keep) (first
  | (go_at_call 58; refine (unhide CG _).mono ?_; rintro e w8 ⟨rfl, g8⟩; replace GX := hide (grown_trans (r := none) (unhide GX) g8); obtain ⟨k0, k1, k2, k3⟩ := unhide CK _ (unhide GX); clear g8)
  | (go_at_call 104; refine (unhide CM' _ (unhide GX)).mono ?_; rintro e w9 ⟨rfl, g9⟩; replace GX := hide (grown_trans (r := none) (unhide GX) g9); obtain ⟨k0, k1, k2, k3⟩ := unhide CK _ (unhide GX); clear g9))
 all_goals
  have G1 := hide (grown_trans (r := none) (unhide G0) (unhide GX))
  have F1 := hide ((unhide F0).kept (unhide GX))
  have B1 := hide ((unhide HB0).kept (unhide GX))
  have E1 := hide ((unhide HT).kept (unhide G1))
  clear GX CK CM' CM CG G0 F0 HB0
  clear k0 k1 k2 k3
  cases okm
  ·have HV : Hid (K = 1) := (unhide HIK).trans (if_pos rfl)
   clear HIK
   go_wp2_with fail
   refine (yn.refuse1 _ (unhide E1).errs).mono ?_; rintro e wz ⟨rfl, hw⟩; have hw' := hw.symm; clear hw; subst hw'
   go_wp2_with fail
   go_ret
   exact ⟨by rw [unhide HV]; rfl, unhide G1⟩
  have x0 := (unhide F1).c0
  have x1 := (unhide F1).c1
  go_wp2_with fail
  refine (unhide CD _ (unhide G1)).mono ?_; rintro e w2 ⟨rfl, g2⟩
  have G2 := hide (grown_trans (r := none) (unhide G1) g2)
  have F2 := hide ((unhide F1).kept g2)
  have B2 := hide ((unhide B1).kept g2)
  have E2 := hide ((unhide HT).kept (unhide G2))
  clear g2 G1 F1 B1 E1 CD x0 x1
  have hem := unhide HEM
  cases hE : DT.isEmpty
  rotate_left
  ·rw [hE] at hem
   have HV : Hid (K = 2) := (unhide HIK).trans ((if_neg (by decide)).trans (if_pos (.inl (List.isEmpty_iff.1 hE))))
   clear HIK hE
   go_wp2_with fail
   refine (yn.refuse2 _ (unhide E2).errs).mono ?_; rintro e wz ⟨rfl, hw⟩; have hw' := hw.symm; clear hw; subst hw'
   go_wp2_with fail
   go_ret
   exact ⟨by rw [unhide HV]; rfl, unhide G2⟩
  rw [hE] at hem
  have y0 := (unhide B2).c0
  by_cases hq : rd.bytes d = DT
  rotate_left
  ·have hq' : (d.toList == D.toList) = false := by rw [unhide HDQ, unhide HDD, beq_eq_false_iff_ne]; exact hq
   have HV : Hid (K = 2) := (unhide HIK).trans ((if_neg (by decide)).trans (if_pos (.inr hq)))
   clear HIK hE hq
   go_wp2_with fail
   refine (yn.refuse2 _ (unhide E2).errs).mono ?_; rintro e wz ⟨rfl, hw⟩; have hw' := hw.symm; clear hw; subst hw'
   go_wp2_with fail
   go_ret
   exact ⟨by rw [unhide HV]; rfl, unhide G2⟩
  have hq' : (d.toList == D.toList) = true := by rw [unhide HDQ, unhide HDD, hq]; exact beq_self_eq_true _
  have HK2 : Hid (K = if sat = true then (if okr = false then 3 else if trueB n LL A = false then 4 else 0) else (if okp = false then 3 else if checkB n LL P = false then 4 else 0)) := (unhide HIK).trans ((if_neg (by decide)).trans (if_neg (fun h => by rcases h with h | h; rw [h] at hE; cases hE; exact h hq)))
  clear HIK hE hq
  have y1 := (unhide B2).c1
  have y2 := (unhide B2).c2
  have y3 := (unhide B2).c3
  have x0 := (unhide F2).c0
  cases sat
  ·have HK3 : Hid (K = if okp = false then 3 else if checkB n LL P = false then 4 else 0) := (unhide HK2).trans (if_neg (by decide))
   clear HK2 CT HH
   go_wp2_with fail
   refine (unhide CF _ (unhide G2)).mono ?_; rintro e w3 ⟨a, c, rfl, o3, g3⟩
   have G3 := hide (grown_trans (r := none) (unhide G2) g3)
   have F3 := hide ((unhide F2).kept g3)
   have E3 := hide ((unhide HT).kept (unhide G3))
   have O3 := hide o3
   clear g3 o3 G2 F2 B2 E2 CF x0 y0 y1 y2 y3 hem hq'
   cases okp
   ·have HV : Hid (K = 3) := (unhide HK3).trans (if_pos rfl)
    clear HK3
    go_wp2_with fail
    refine (yn.refuse3 _ (unhide E3).errs).mono ?_; rintro e wz ⟨rfl, hw⟩; have hw' := hw.symm; clear hw; subst hw'
    go_wp2_with fail
    go_ret
    exact ⟨by rw [unhide HV]; rfl, unhide G3⟩
   have x0 := (unhide F3).c0
   have x1 := (unhide F3).c1
   have CH := hide (unhide HR P hro _ w3 (unhide G3) (unhide O3).sls)
   have mH := methodR
   have HK4 : Hid (K = if checkB n LL P = false then 4 else 0) := (unhide HK3).trans (if_neg (by decide))
   clear HK3 HR O3
   generalize checkB n LL P = okc at *
   go_wp2_with fail
   refine (unhide CH).mono ?_; rintro e w4 ⟨rfl, g4⟩
   have G4 := hide (grown_trans (r := none) (unhide G3) g4)
   have E4 := hide ((unhide HT).kept (unhide G4))
   clear g4 G3 F3 E3 CH mH x0 x1
   cases okc
   ·have HV : Hid (K = 4) := (unhide HK4).trans (if_pos rfl)
    clear HK4
    go_wp2_with fail
    refine (yn.refuse4 _ (unhide E4).errs).mono ?_; rintro e wz ⟨rfl, hw⟩; have hw' := hw.symm; clear hw; subst hw'
    go_wp2_with fail
    go_ret
    exact ⟨by rw [unhide HV]; rfl, unhide G4⟩
   have HV : Hid (K = 0) := (unhide HK4).trans (if_neg (by decide))
   clear HK4
   go_wp2_with fail
   go_ret
   exact ⟨by rw [unhide HV]; rfl, unhide G4⟩
  ·have HK3 : Hid (K = if okr = false then 3 else if trueB n LL A = false then 4 else 0) := (unhide HK2).trans (if_pos rfl)
   clear HK2 CF HR
   go_wp2_with fail
   refine (unhide CT _ (unhide G2)).mono ?_; rintro e w3 ⟨a, c, rfl, m3⟩
   have G3 := hide (grown_trans (r := none) (unhide G2) m3.2)
   have F3 := hide ((unhide F2).kept m3.2)
   have E3 := hide ((unhide HT).kept (unhide G3))
   have O3 := hide (sl.Sl.of_own m3.1)
   clear m3 G2 F2 B2 E2 CT x0 y0 y1 y2 y3 hem hq'
   cases okr
   ·have HV : Hid (K = 3) := (unhide HK3).trans (if_pos rfl)
    clear HK3
    go_wp2_with fail
    refine (yn.refuse3 _ (unhide E3).errs).mono ?_; rintro e wz ⟨rfl, hw⟩; have hw' := hw.symm; clear hw; subst hw'
    go_wp2_with fail
    go_ret
    exact ⟨by rw [unhide HV]; rfl, unhide G3⟩
   have x0 := (unhide F3).c0
   have x1 := (unhide F3).c1
   have CH := hide (unhide HH A hra _ w3 (unhide G3) (unhide O3))
   have mH := methodT
   have HK4 : Hid (K = if trueB n LL A = false then 4 else 0) := (unhide HK3).trans (if_neg (by decide))
   clear HK3 HH O3
   generalize trueB n LL A = okc at *
   go_wp2_with fail
   refine (unhide CH).mono ?_; rintro e w4 ⟨rfl, g4⟩
   have G4 := hide (grown_trans (r := none) (unhide G3) g4)
   have E4 := hide ((unhide HT).kept (unhide G4))
   clear g4 G3 F3 E3 CH mH x0 x1
   cases okc
   ·have HV : Hid (K = 4) := (unhide HK4).trans (if_pos rfl)
    clear HK4
    go_wp2_with fail
    refine (yn.refuse4 _ (unhide E4).errs).mono ?_; rintro e wz ⟨rfl, hw⟩; have hw' := hw.symm; clear hw; subst hw'
    go_wp2_with fail
    go_ret
    exact ⟨by rw [unhide HV]; rfl, unhide G4⟩
   have HV : Hid (K = 0) := (unhide HK4).trans (if_neg (by decide))
   clear HK4
   go_wp2_with fail
   go_ret
   exact ⟨by rw [unhide HV]; rfl, unhide G4⟩
set_option maxRecDepth 100000 in
set_option maxHeartbeats 4000000 in
theorem implVerify {a1 a2 a3 a4 : Addr} (key : ByteArray) (v : Value) (n : Int) (LL : List (List Int)) (d : ByteArray) (sat : Bool) (b m : ByteArray) (O : Option (List (List Int))) (w : World) (hk : key.size ≤ 1048576) (hE : Env w a1 a2 a3 a4) (hn : tot LL ≤ 1048576) (hv : Sls w v LL) (hO : RP (rd.bytes b) O) (hd : d.size ≤ 1048576) (hb : b.size ≤ 1048576) (hdb : d.size + b.size ≤ 1048576) :
  Calls Tryz.prog 19 #[.string key, .agg #[.int .i64 n, v], .agg #[.string d, .bool sat, .string b, .string m]] w fun e w' => e = .returned (.int .i64 (vfC key n LL d sat b m O : Nat)) ∧ w.grownBy w' none := by
 have g0 := grown_trans (r := none) (World.grownBy_alloc w (.cells #[.int .i64 n, v] 32) none) (World.grownBy_alloc _ (.cells #[.string d, .bool sat, .string b, .string m] 36) none)
 have CV := hide (verify key v n LL d sat b m O _ hk (hE.kept g0) hn (hv.kept g0) hO hd hb hdb)
 have hle := yv.vf_le key n LL d sat b m O
 have G0 := hide g0
 have HT := hide hE
 generalize vfC key n LL d sat b m O = K at *
 have CI := hide (fun j (hj : 1 ≤ j ∧ j ≤ 4) w1 (g : w.grownBy w1 none) => yn.asked w1 (hE.kept g).errs K j hle hj)
 have CR := hide (fun j (hj : 1 ≤ j ∧ j ≤ 4) w1 (g : w.grownBy w1 none) => yn.reason w1 (hE.kept g).errs j hj)
 clear g0 hE hv hO hd hb hdb hk hn
 unfold VerE at CV
 generalize ans a1 a2 a3 a4 K = X at *
 go_enter Tryz.func19, Tryz.ntmps19
 go_wp2_with fail
 refine (unhide CV).mono ?_; rintro e w1 ⟨rfl, g1⟩
 have G1 := hide (grown_trans (r := none) (unhide G0) g1)
 clear g1 CV G0
 go_wp2_with fail
 go_loopw [8, 18, 19, 20] (fun i _ _ _ wr => ∃ j : Nat, (1 ≤ j ∧ j ≤ 5) ∧ i = .int .i64 j ∧ (K = 0 ∨ j ≤ K) ∧ Hid (w.grownBy wr none)) (fun i _ _ _ _ => 5 - (intOf i).toNat)
 case atStart => exact ⟨1, by decide, rfl, by omega, G1⟩
 case round =>
  obtain ⟨j, hj, rfl, hK, hg⟩ := hrel
  clear G1
  by_cases h5 : j ≤ 4
  ·have h5' : (j : Int) ≤ 4 := by omega
   have C1 := hide (unhide CR j ⟨hj.1, h5⟩ wr (unhide hg))
   have C2 := hide (unhide CI j ⟨hj.1, h5⟩)
   generalize pick a1 a2 a3 a4 j = Y at *
   go_wp2_with fail
   refine (unhide C1).mono ?_; rintro e wz ⟨rfl, hw⟩; have hw' := hw.symm; clear hw; subst hw'
   go_wp2_with fail
   refine (unhide C2 wr (unhide hg)).mono ?_; rintro e w2 ⟨rfl, g2⟩
   have G2 := hide (grown_trans (r := none) (unhide hg) g2)
   clear g2 C1 C2 hg
   by_cases hq : K = j
   ·rw [decide_eq_true hq]
    go_wp2_with fail
    go_ret
    exact ⟨by rw [hq]; rfl, unhide G2⟩
   ·rw [decide_eq_false hq]
    go_wp2_with fail
    go_roundw
    case rel => exact ⟨j + 1, by omega, by go_num, by omega, G2⟩
    case measure => simp [intOf]; omega
  ·have h5' : ¬ (j : Int) ≤ 4 := by omega
   have HK : Hid (K = 0) := by show K = 0; omega
   clear hK hj
   go_wp2_with fail
   go_ret
   exact ⟨by rw [unhide HK]; rfl, unhide hg⟩
end Go.Proofs.YtcgiphcfjhbonaaGreatDoor.yo
namespace Go.Proofs.YtcgiphcfjhbonaaGreatDoor.yh
open Go.ChangeShapes Go.WideShapes Go.ChangeAt Go.RowKit
open srt (Tab)
open css (tot Sls OwnS)
open cf (Box)
open wo (Made)
open txt (Pow)
open ok (cnfB)
open lq (solveL FromE)
open xw (wlk WalkE)
open as_ (asText)
open pt (prf)
open sl (Sl hide unhide grown_refl grown_trans)
set_option linter.unusedVariables false
def Ans (w w' : World) (x : Value) (P : List Int ⊕ List (List Int)) : Prop := match P with
 | .inl A => ∃ r, x = .iface 129 (.agg #[r]) ∧ Made w w' r A
 | .inr R => ∃ r, x = .iface 131 (.agg #[r]) ∧ OwnS w.heap.size w'.heap.size w' r R ∧ w.grownBy w' none
def FindE (w : World) (n : Int) (LL : List (List Int)) (e : Ending) (w' : World) : Prop := ∃ x, e = .returned (.tuple #[x, .bool (fnd n LL).2]) ∧ Ans w w' x (fnd n LL).1
set_option maxRecDepth 100000 in
set_option maxHeartbeats 2000000 in
theorem findAnswer (v : Value) (n : Int) (LL : List (List Int)) (w : World) (hT : Tab w) (hn : tot LL ≤ 1048576) (hv : Sls w v LL) :
  Calls Tryz.prog 55 #[.agg #[.int .i64 n, v]] w fun e w' => FindE w n LL e w' := by
 have g0 := World.grownBy_alloc w (.cells #[.int .i64 n, v] 32) none
 have F0 := hide (Box.new 32 w (.int .i64 n) v)
 have CS := hide (ks.implSolve v n LL _ (hT.kept g0) hn (hv.kept g0))
 have CR := hide (fun w1 (g : w.grownBy w1 none) => xp.implRefute v n LL w1 (hT.kept g) hn (hv.kept g))
 have G0 := hide g0
 have x0 := (unhide F0).c0
 have x1 := (unhide F0).c1
 clear g0 hT hv hn
 unfold lq.FromE at CS
 unfold xw.WalkE at CR
 cases hs : solveL n LL [] with
 | some A =>
  rw [hs] at CS
  have FE : fnd n LL = (.inl A, true) := by unfold fnd; rw [hs]
  have HF : Hid (∀ e w', FindE w n LL e w' = ∃ x, e = .returned (.tuple #[x, .bool true]) ∧ Ans w w' x (.inl A)) := fun e w' => by unfold FindE; rw [FE]
  clear hs CR FE
  go_enter Tryz.func55, Tryz.ntmps55
  go_wp2_with fail
  refine (unhide CS).mono ?_; rintro e w1 ⟨r, rfl, m1⟩
  obtain ⟨ra, rc, er, _⟩ := sl.Sl.of_own m1.1
  subst er
  have M1 := hide m1
  clear m1 CS x0 x1
  simp only [Option.isSome_some]
  go_wp2_with fail
  go_ret2
  refine (unhide HF _ _).symm ▸ ⟨_, rfl, _, rfl, css.own_mono (unhide M1).1 (unhide G0).size, grown_trans (unhide G0) (unhide M1).2⟩
 | none =>
  rw [hs] at CS
  have FE : fnd n LL = (.inr (refL n LL).1, (refL n LL).2) := by unfold fnd; rw [hs]
  have HF : Hid (∀ e w', FindE w n LL e w' = ∃ x, e = .returned (.tuple #[x, .bool (refL n LL).2]) ∧ Ans w w' x (.inr (refL n LL).1)) := fun e w' => by unfold FindE; rw [FE]
  change Hid (∀ w1, w.grownBy w1 none → Calls Tryz.prog 97 #[.agg #[.int .i64 n, v]] w1 fun e w' => ∃ r, e = .returned (.tuple #[r, .bool (refL n LL).2]) ∧ OwnS w1.heap.size w'.heap.size w' r (refL n LL).1 ∧ w1.grownBy w' none) at CR
  generalize refL n LL = R at *
  obtain ⟨P, b⟩ := R
  clear hs FE
  go_enter Tryz.func55, Tryz.ntmps55
  go_wp2_with fail
  refine (unhide CS).mono ?_; rintro e w1 ⟨r, rfl, m1⟩
  obtain ⟨ra, rc, er, _⟩ := sl.Sl.of_own m1.1
  subst er
  have G1 := hide (grown_trans (r := none) (unhide G0) m1.2)
  have F1 := hide ((unhide F0).kept m1.2)
  clear m1 CS x0 x1 F0
  have x0 := (unhide F1).c0
  have x1 := (unhide F1).c1
  simp only [Option.isSome_none]
  go_wp2_with fail
  refine (unhide CR w1 (unhide G1)).mono ?_; rintro e w2 ⟨r2, rfl, o2, g2⟩
  obtain ⟨pa, pc, rfl⟩ := o2.len
  have O2 := hide o2
  have G2 := hide (grown_trans (r := none) (unhide G1) g2)
  clear o2 g2 CR x0 x1
  go_wp2_with fail
  go_ret2
  refine (unhide HF _ _).symm ▸ ⟨_, rfl, _, rfl, (unhide O2).sub (unhide G1).size (Nat.le_refl _), unhide G2⟩
theorem assertT (xT : TypeId) (r : Value) (w : World) : (Instr.typeAssert (.iface 129 (.agg #[r])) xT 129 true).run Tryz.prog w = .ok (.tuple #[.agg #[r], .bool true]) w := by
 simp [Instr.typeAssert, run_underlying Tryz.underlying129, go_sem, Result.andThen]
theorem assertR (xT : TypeId) (r : Value) (w : World) : (Instr.typeAssert (.iface 131 (.agg #[r])) xT 131 true).run Tryz.prog w = .ok (.tuple #[.agg #[r], .bool true]) w := by
 simp [Instr.typeAssert, run_underlying Tryz.underlying131, go_sem, Result.andThen]
theorem assertN (xT : TypeId) (r : Value) (w : World) : (Instr.typeAssert (.iface 131 (.agg #[r])) xT 129 true).run Tryz.prog w = .ok (.tuple #[.agg #[.slice none 0 0], .bool false]) w := by
 simp [Instr.typeAssert, run_underlying Tryz.underlying129, go_sem, Result.andThen]
set_option maxRecDepth 100000 in
theorem isSatT (r : Value) (w : World) : Calls Tryz.prog 56 #[.iface 129 (.agg #[r])] w fun e w' => e = .returned (.bool true) ∧ w' = w := by
 have a1 := fun xT w => assertT xT r w
 go_enter Tryz.func56, Tryz.ntmps56
 go_wp2
 go_ret
 exact ⟨rfl, rfl⟩
set_option maxRecDepth 100000 in
theorem isSatF (r : Value) (w : World) : Calls Tryz.prog 56 #[.iface 131 (.agg #[r])] w fun e w' => e = .returned (.bool false) ∧ w' = w := by
 have a1 := fun xT w => assertR xT r w
 have a2 := fun xT w => assertN xT r w
 go_enter Tryz.func56, Tryz.ntmps56
 go_wp2
 go_ret
 exact ⟨rfl, rfl⟩
theorem methodT (v : Value) (w : World) : (Go.method 413 129 v "loop.example/g00123/impl.body").run Tryz.prog w = .ok (260, v) w := by kernel_rfl
theorem methodR (v : Value) (w : World) : (Go.method 413 131 v "loop.example/g00123/impl.body").run Tryz.prog w = .ok (269, v) w := by kernel_rfl
set_option maxRecDepth 100000 in
theorem bodyT (r : Value) (A : List Int) (w : World) (hP : Pow w) (hL : A.length ≤ 1048576) (hr : Sl w r A) : Calls Tryz.prog 260 #[.agg #[r]] w fun e w' => e = .returned (dec.str (asText A)) ∧ w.grownBy w' none := by
 have g0 := World.grownBy_alloc w (.cells #[r] 129) none
 have C := hide (as_.implAssignText r A _ (hP.kept g0) hL (hr.kept g0 (.inl rfl)))
 have G0 := hide g0
 clear g0
 unfold dec.str at *
 go_enter Tryz.func260, Tryz.ntmps260
 go_wp2_with fail
 refine (unhide C).mono ?_; rintro e w1 ⟨rfl, g1⟩
 go_wp2_with fail
 go_ret
 exact ⟨rfl, grown_trans (r := none) (unhide G0) g1⟩
set_option maxRecDepth 100000 in
theorem bodyR (r : Value) (R : List (List Int)) (w : World) (hP : Pow w) (hL : tot R ≤ 1048576) (hr : Sls w r R) : Calls Tryz.prog 269 #[.agg #[r]] w fun e w' => e = .returned (dec.str (prf R)) ∧ w.grownBy w' none := by
 have g0 := World.grownBy_alloc w (.cells #[r] 131) none
 have C := hide (pt.implProofText r R _ (hP.kept g0) hL (hr.kept g0))
 have G0 := hide g0
 clear g0
 unfold dec.str at *
 go_enter Tryz.func269, Tryz.ntmps269
 go_wp2_with fail
 refine (unhide C).mono ?_; rintro e w1 ⟨rfl, g1⟩
 go_wp2_with fail
 go_ret
 exact ⟨rfl, grown_trans (r := none) (unhide G0) g1⟩
end Go.Proofs.YtcgiphcfjhbonaaGreatDoor.yh
namespace Go.Proofs.YtcgiphcfjhbonaaGreatDoor.yi
open Go.ChangeShapes Go.WideShapes Go.ChangeAt Go.RowKit
open srt (Tab)
open css (tot Sls OwnS)
open cf (Box)
open wo (Made)
open txt (Pow)
open ok (cnfB)
open lq (solveL FromE)
open xw (wlk WalkE)
open as_ (asText)
open pt (prf)
open da (digT)
open zk (TabK TabS)
open zr (macT)
open yb (Box4 Cr cellsC CertE)
open yg (sgB)
open yh (refL fnd FindE Ans)
open sl (Sl hide unhide grown_refl grown_trans)
set_option linter.unusedVariables false
structure Tabs (w : World) : Prop where
 tab : Tab w
 pow : Pow w
 k : TabK w
 s : TabS w
theorem Tabs.kept {w w' : World} (h : Tabs w) (g : w.grownBy w' none) : Tabs w' := ⟨h.tab.kept g, h.pow.kept g, h.k.kept g, h.s.kept g⟩
theorem fnd_bd (n : Int) (LL : List (List Int)) : match (fnd n LL).1 with
 | .inl A => A.length ≤ 24
 | .inr R => tot R ≤ 34300 := by
 have h1 := ks.solve_len n LL []
 have h2 := xp.wlk_tot n LL
 unfold yh.fnd
 cases hs : solveL n LL [] with
 | some A => rw [hs] at h1; exact h1
 | none => exact h2
set_option maxRecDepth 100000 in
set_option maxHeartbeats 4000000 in
theorem implIssue (key : ByteArray) (v : Value) (n : Int) (LL : List (List Int)) (w : World) (hk : key.size ≤ 1048576) (hT : Tabs w) (hn : tot LL ≤ 1048576) (hv : Sls w v LL) :
  Calls Tryz.prog 17 #[.string key, .agg #[.int .i64 n, v]] w fun e w' => CertE w (issO key n LL) e w' := by
 have g0 := grown_trans (r := none) (World.grownBy_alloc w (.cells #[.int .i64 n, v] 32) none) (World.grownBy_alloc _ (.cells #[.string ⟨#[]⟩, .bool false, .string ⟨#[]⟩, .string ⟨#[]⟩] 36) none)
 have F0 := hide ((Box.new 32 w (.int .i64 n) v).kept (World.grownBy_alloc _ (.cells #[.string ⟨#[]⟩, .bool false, .string ⟨#[]⟩, .string ⟨#[]⟩] 36) none))
 have B0 := Box4.new 36 (w.alloc (.cells #[.int .i64 n, v] 32)) (.string ⟨#[]⟩) (.bool false) (.string ⟨#[]⟩) (.string ⟨#[]⟩)
 rw [World.size_alloc] at B0
 have HB0 := hide B0
 have CD := hide (fun w1 (g : w.grownBy w1 none) => da.implDigest v n LL w1 (hT.kept g).tab (hT.kept g).pow (hT.kept g).k (hT.kept g).s hn (hv.kept g))
 have CF := hide (fun w1 (g : w.grownBy w1 none) => yh.findAnswer v n LL w1 (hT.kept g).tab hn (hv.kept g))
 have G0 := hide g0
 obtain ⟨W0, hW0⟩ : ∃ W0, W0 = (w.alloc (.cells #[.int .i64 n, v] 32)).alloc (.cells #[.string ⟨#[]⟩, .bool false, .string ⟨#[]⟩, .string ⟨#[]⟩] 36) := ⟨_, rfl⟩
 rw [← hW0] at F0 HB0 G0
 have HT := hide hT
 have CB := hide (fnd_bd n LL)
 have hds := dig_size n LL
 have hem := da.empty_list (digT n LL)
 unfold dec.str at CD
 change Hid (∀ w1, w.grownBy w1 none → Calls Tryz.prog 20 #[.agg #[.int .i64 n, v]] w1 fun e w' => e = .returned (.string (digB n LL)) ∧ w1.grownBy w' none) at CD
 change ((digB n LL).toList == []) = _ at hem
 have HI : issO key n LL = if digT n LL = [] ∨ 64 < key.size ∨ (fnd n LL).2 = false then none
  else some (digB n LL, satB (fnd n LL).1, bodyB (fnd n LL).1, markB key (digB n LL) (satB (fnd n LL).1) (bodyB (fnd n LL).1)) := rfl
 unfold yh.FindE at CF
 generalize issO key n LL = O at *
 generalize digB n LL = D at *
 generalize hdt : digT n LL = DT at *
 generalize fnd n LL = FN at *
 obtain ⟨P, ok⟩ := FN
 have x0 := (unhide F0).c0
 have x1 := (unhide F0).c1
 clear g0 hT B0 hdt
 go_enter Tryz.func17, Tryz.ntmps17
 go_upto_region 1 with fail
 rw [← hW0]
 clear hW0
 go_wp2_with fail
 refine (unhide CD W0 (unhide G0)).mono ?_; rintro e w1 ⟨rfl, g1⟩
 have G1 := hide (grown_trans (r := none) (unhide G0) g1)
 have F1 := hide ((unhide F0).kept g1)
 have B1 := hide ((unhide HB0).kept g1)
 clear g1 G0 F0 HB0 x0 x1 CD
 have HO := hide HI
 clear HI
 cases hE : DT.isEmpty
 ·rw [hE] at hem
  have hne : DT ≠ [] := fun e => by rw [e] at hE; cases hE
  have NE := hide hne
  clear hne hE
  by_cases h64 : 64 < key.size
  ·have h64' : (64 : Int) < (key.size : Int) := by omega
   have EO : Hid (O = none) := (unhide HO).trans (if_pos (.inr (.inl h64)))
   have B5 := B1
   have G5 := G1
   have p0 := (unhide B5).c0
   have p1 := (unhide B5).c1
   have p2 := (unhide B5).c2
   have p3 := (unhide B5).c3
   have f0 := (unhide B5).f 0
   have f1 := (unhide B5).f 1
   have f2 := (unhide B5).f 2
   have f3 := (unhide B5).f 3
   clear h64 HO NE CF CB B1 G1 F1
   go_wp2_with fail
   (try simp only [Exit.inBlock, Exit.then])
   exact bodyPost_ret (yb.ret_box2 rfl rfl ((unhide B5).setA _ _ _ _)) rfl (by rw [unhide EO]; exact ⟨rfl, yb.grown_setA (unhide G5) (Nat.le_succ _)⟩)
  ·have h64' : ¬ (64 : Int) < (key.size : Int) := by omega
   have H64 := hide h64
   have x0 := (unhide F1).c0
   have x1 := (unhide F1).c1
   clear h64
   go_wp2_with fail
   refine (unhide CF w1 (unhide G1)).mono ?_; rintro e w2 ⟨x, rfl, ans⟩
   clear x0 x1 CF F1
   cases ok
   ·have EO : Hid (O = none) := (unhide HO).trans (if_pos (.inr (.inr rfl)))
    have g2 : w1.grownBy w2 none := by
     cases P with
     | inl A => obtain ⟨r, _, m⟩ := ans; exact m.2
     | inr R => obtain ⟨r, _, _, g⟩ := ans; exact g
    have G5 := hide (grown_trans (r := none) (unhide G1) g2)
    have B5 := hide ((unhide B1).kept g2)
    clear g2 ans
    have p0 := (unhide B5).c0
    have p1 := (unhide B5).c1
    have p2 := (unhide B5).c2
    have p3 := (unhide B5).c3
    have f0 := (unhide B5).f 0
    have f1 := (unhide B5).f 1
    have f2 := (unhide B5).f 2
    have f3 := (unhide B5).f 3
    clear H64 HO NE CB B1 G1
    go_wp2_with fail
    (try simp only [Exit.inBlock, Exit.then])
    exact bodyPost_ret (yb.ret_box2 rfl rfl ((unhide B5).setA _ _ _ _)) rfl (by rw [unhide EO]; exact ⟨rfl, yb.grown_setA (unhide G5) (Nat.le_succ _)⟩)
   ·have EO := hide ((unhide HO).trans (if_neg (fun h => by rcases h with h | h | h; exact unhide NE h; exact unhide H64 h; cases h)))
    cases P with
    | inl A =>
     obtain ⟨r, rfl, m2⟩ := ans
     have hA : A.length ≤ 24 := unhide CB
     obtain ⟨ra, rc, er, hr⟩ := sl.Sl.of_own m2.1
     subst er
     have G2 := hide (grown_trans (r := none) (unhide G1) m2.2)
     have B2 := hide ((unhide B1).kept m2.2)
     have CI := hide (yh.isSatT (.slice ra A.length rc))
     have CY := hide (yh.bodyT (.slice ra A.length rc) A w2 ((unhide HT).kept (unhide G2)).pow (by omega) (sl.Sl.of_own m2.1))
     clear m2 hr HO NE H64 CB B1 G1
     go_wp2_with fail
     refine (unhide CI _).mono ?_; rintro e w3 ⟨rfl, hw⟩; have hw' := hw.symm; clear hw; subst hw'
     have mB := yh.methodT
     go_wp2_with fail
     refine (unhide CY).mono ?_; rintro e w3 ⟨rfl, g3⟩
     unfold dec.str
     have G3 := hide (grown_trans (r := none) (unhide G2) g3)
     have B3 := hide ((unhide B2).kept g3)
     clear g3 G2 B2 CI mB
     have hbs : (⟨(asText A).toArray⟩ : ByteArray).size ≤ 400000 := body_size (.inl A)
     have EO' : Hid (O = some (D, true, ⟨(asText A).toArray⟩, markB key D true ⟨(asText A).toArray⟩)) := unhide EO
     generalize (⟨(asText A).toArray⟩ : ByteArray) = bb at *
     have CG := hide (fun w1 => yg.implSigned D true bb ⟨#[]⟩ w1 (by omega) (by omega))
     have hsz : (sgB D true bb).size ≤ 1048576 := by rw [yg.sg_size]; omega
     have CM := hide (fun w1 (g : w.grownBy w1 none) => zr.implMac key (sgB D true bb) w1 hk hsz ((unhide HT).kept g).k ((unhide HT).kept g).s)
     unfold dec.str at CM
     change Hid (∀ w1, w.grownBy w1 none → Calls Tryz.prog 57 #[.string key, .string (sgB D true bb)] w1 fun e w' => e = .returned (.string (markB key D true bb)) ∧ w1.grownBy w' none) at CM
     generalize markB key D true bb = mk at *
     generalize sgB D true bb = sg at *
     clear EO hsz hbs hds hem CY
     obtain ⟨W3, hW3⟩ : ∃ W3, W3 = w3.alloc (.cells #[.string D, .bool true, .string bb, .string ⟨#[]⟩] 36) := ⟨_, rfl⟩
     have ga : w3.grownBy W3 none := by rw [hW3]; exact World.grownBy_alloc w3 _ none
     have BC : Hid (Box4 36 W3 w3.heap.size (.string D) (.bool true) (.string bb) (.string ⟨#[]⟩)) := by rw [hW3]; exact Box4.new 36 w3 _ _ _ _
     have GA := hide (grown_trans (r := none) (unhide G3) ga)
     have BA := hide ((unhide B3).kept ga)
     have hne : w3.heap.size ≠ w.heap.size + 1 := fun e => by have := (unhide B3).lt; omega
     have h1 : w.heap.size ≤ w3.heap.size := (unhide G3).size
     clear ga G3 B3
     go_upto_region 8 with fail
     rw [← hW3]
     clear hW3
     have q0 := (unhide BC).c0
     have q1 := (unhide BC).c1
     have q2 := (unhide BC).c2
     have q3 := (unhide BC).c3
     go_wp2_with fail
     refine (unhide CG _).mono ?_; rintro e w4 ⟨rfl, g4⟩
     have G4 := hide (grown_trans (r := none) (unhide GA) g4)
     have B4 := hide ((unhide BA).kept g4)
     have BD := hide ((unhide BC).kept g4)
     clear g4 GA BA BC CG q0 q1 q2 q3
     go_wp2_with fail
     refine (unhide CM w4 (unhide G4)).mono ?_; rintro e w5 ⟨rfl, g5⟩
     have G5 := hide (grown_trans (r := none) (unhide G4) g5)
     have B5 := hide ((unhide B4).kept g5)
     have BE := hide ((unhide BD).kept g5)
     clear g5 G4 B4 BD CM
     have q3 := (unhide BE).c3
     have qf := (unhide BE).f 3
     obtain ⟨W6, hW6⟩ : ∃ W6, W6 = w5.setCell ⟨w3.heap.size, 3, none⟩ (.string mk) := ⟨_, rfl⟩
     have BF : Hid (Box4 36 W6 w3.heap.size (.string D) (.bool true) (.string bb) (.string mk)) := by rw [hW6]; exact (unhide BE).set3 _
     have B6 : Hid (Box4 36 W6 (w.heap.size + 1) (.string ⟨#[]⟩) (.bool false) (.string ⟨#[]⟩) (.string ⟨#[]⟩)) := by rw [hW6]; exact (unhide B5).setO hne
     have G6 : Hid (w.grownBy W6 none) := by rw [hW6]; exact yb.grown_set (unhide G5) h1
     clear G5 B5 BE
     go_upto_region 9 with fail
     rw [← hW6]
     clear hW6 q3 qf
     have q0 := (unhide BF).c0
     have q1 := (unhide BF).c1
     have q2 := (unhide BF).c2
     have q3 := (unhide BF).c3
     have p0 := (unhide B6).c0
     have p1 := (unhide B6).c1
     have p2 := (unhide B6).c2
     have p3 := (unhide B6).c3
     have f0 := (unhide B6).f 0
     have f1 := (unhide B6).f 1
     have f2 := (unhide B6).f 2
     have f3 := (unhide B6).f 3
     go_wp2_with fail
     (try simp only [Exit.inBlock, Exit.then])
     exact bodyPost_ret (yb.ret_box2 rfl rfl ((unhide B6).setA _ _ _ _)) rfl (by rw [unhide EO']; exact ⟨rfl, yb.grown_setA (unhide G6) (Nat.le_succ _)⟩)
    | inr R =>
     obtain ⟨r, rfl, o2, g2⟩ := ans
     have hR : tot R ≤ 34300 := unhide CB
     obtain ⟨ra, rc, rfl⟩ := o2.len
     have G2 := hide (grown_trans (r := none) (unhide G1) g2)
     have B2 := hide ((unhide B1).kept g2)
     have CI := hide (yh.isSatF (.slice ra R.length rc))
     have CY := hide (yh.bodyR (.slice ra R.length rc) R w2 ((unhide HT).kept (unhide G2)).pow (by omega) o2.sls)
     clear o2 g2 HO NE H64 CB B1 G1
     go_wp2_with fail
     refine (unhide CI _).mono ?_; rintro e w3 ⟨rfl, hw⟩; have hw' := hw.symm; clear hw; subst hw'
     have mB := yh.methodR
     go_wp2_with fail
     refine (unhide CY).mono ?_; rintro e w3 ⟨rfl, g3⟩
     unfold dec.str
     have G3 := hide (grown_trans (r := none) (unhide G2) g3)
     have B3 := hide ((unhide B2).kept g3)
     clear g3 G2 B2 CI mB
     have hbs : (⟨(prf R).toArray⟩ : ByteArray).size ≤ 400000 := body_size (.inr R)
     have EO' : Hid (O = some (D, false, ⟨(prf R).toArray⟩, markB key D false ⟨(prf R).toArray⟩)) := unhide EO
     generalize (⟨(prf R).toArray⟩ : ByteArray) = bb at *
     have CG := hide (fun w1 => yg.implSigned D false bb ⟨#[]⟩ w1 (by omega) (by omega))
     have hsz : (sgB D false bb).size ≤ 1048576 := by rw [yg.sg_size]; omega
     have CM := hide (fun w1 (g : w.grownBy w1 none) => zr.implMac key (sgB D false bb) w1 hk hsz ((unhide HT).kept g).k ((unhide HT).kept g).s)
     unfold dec.str at CM
     change Hid (∀ w1, w.grownBy w1 none → Calls Tryz.prog 57 #[.string key, .string (sgB D false bb)] w1 fun e w' => e = .returned (.string (markB key D false bb)) ∧ w1.grownBy w' none) at CM
     generalize markB key D false bb = mk at *
     generalize sgB D false bb = sg at *
     clear EO hsz hbs hds hem CY
     obtain ⟨W3, hW3⟩ : ∃ W3, W3 = w3.alloc (.cells #[.string D, .bool false, .string bb, .string ⟨#[]⟩] 36) := ⟨_, rfl⟩
     have ga : w3.grownBy W3 none := by rw [hW3]; exact World.grownBy_alloc w3 _ none
     have BC : Hid (Box4 36 W3 w3.heap.size (.string D) (.bool false) (.string bb) (.string ⟨#[]⟩)) := by rw [hW3]; exact Box4.new 36 w3 _ _ _ _
     have GA := hide (grown_trans (r := none) (unhide G3) ga)
     have BA := hide ((unhide B3).kept ga)
     have hne : w3.heap.size ≠ w.heap.size + 1 := fun e => by have := (unhide B3).lt; omega
     have h1 : w.heap.size ≤ w3.heap.size := (unhide G3).size
     clear ga G3 B3
     go_upto_region 8 with fail
     rw [← hW3]
     clear hW3
     have q0 := (unhide BC).c0
     have q1 := (unhide BC).c1
     have q2 := (unhide BC).c2
     have q3 := (unhide BC).c3
     go_wp2_with fail
     refine (unhide CG _).mono ?_; rintro e w4 ⟨rfl, g4⟩
     have G4 := hide (grown_trans (r := none) (unhide GA) g4)
     have B4 := hide ((unhide BA).kept g4)
     have BD := hide ((unhide BC).kept g4)
     clear g4 GA BA BC CG q0 q1 q2 q3
     go_wp2_with fail
     refine (unhide CM w4 (unhide G4)).mono ?_; rintro e w5 ⟨rfl, g5⟩
     have G5 := hide (grown_trans (r := none) (unhide G4) g5)
     have B5 := hide ((unhide B4).kept g5)
     have BE := hide ((unhide BD).kept g5)
     clear g5 G4 B4 BD CM
     have q3 := (unhide BE).c3
     have qf := (unhide BE).f 3
     obtain ⟨W6, hW6⟩ : ∃ W6, W6 = w5.setCell ⟨w3.heap.size, 3, none⟩ (.string mk) := ⟨_, rfl⟩
     have BF : Hid (Box4 36 W6 w3.heap.size (.string D) (.bool false) (.string bb) (.string mk)) := by rw [hW6]; exact (unhide BE).set3 _
     have B6 : Hid (Box4 36 W6 (w.heap.size + 1) (.string ⟨#[]⟩) (.bool false) (.string ⟨#[]⟩) (.string ⟨#[]⟩)) := by rw [hW6]; exact (unhide B5).setO hne
     have G6 : Hid (w.grownBy W6 none) := by rw [hW6]; exact yb.grown_set (unhide G5) h1
     clear G5 B5 BE
     go_upto_region 9 with fail
     rw [← hW6]
     clear hW6 q3 qf
     have q0 := (unhide BF).c0
     have q1 := (unhide BF).c1
     have q2 := (unhide BF).c2
     have q3 := (unhide BF).c3
     have p0 := (unhide B6).c0
     have p1 := (unhide B6).c1
     have p2 := (unhide B6).c2
     have p3 := (unhide B6).c3
     have f0 := (unhide B6).f 0
     have f1 := (unhide B6).f 1
     have f2 := (unhide B6).f 2
     have f3 := (unhide B6).f 3
     go_wp2_with fail
     (try simp only [Exit.inBlock, Exit.then])
     exact bodyPost_ret (yb.ret_box2 rfl rfl ((unhide B6).setA _ _ _ _)) rfl (by rw [unhide EO']; exact ⟨rfl, yb.grown_setA (unhide G6) (Nat.le_succ _)⟩)
 ·rw [hE] at hem
  have EO : Hid (O = none) := (unhide HO).trans (if_pos (.inl (List.isEmpty_iff.1 hE)))
  have B5 := B1
  have G5 := G1
  have p0 := (unhide B5).c0
  have p1 := (unhide B5).c1
  have p2 := (unhide B5).c2
  have p3 := (unhide B5).c3
  have f0 := (unhide B5).f 0
  have f1 := (unhide B5).f 1
  have f2 := (unhide B5).f 2
  have f3 := (unhide B5).f 3
  clear hE HO CF CB B1 G1 F1
  go_wp2_with fail
  (try simp only [Exit.inBlock, Exit.then])
  exact bodyPost_ret (yb.ret_box2 rfl rfl ((unhide B5).setA _ _ _ _)) rfl (by rw [unhide EO]; exact ⟨rfl, yb.grown_setA (unhide G5) (Nat.le_succ _)⟩)
end Go.Proofs.YtcgiphcfjhbonaaGreatDoor.yi
