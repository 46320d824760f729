/- Structs of four values in memory; what the small helpers on certificates (a size, a copy, an equality) do; no condition but on sizes. -/
import Derived.Test.YtddmmoehlabkiaaGreatDoorJOq
import Derived.Test.YtddmmoehlabkiaaGreatDoorJOz
import Derived.Test.YtddmmoehlabkiaaGreatDoorJOr
import Derived.Test.YtddmmoehlabkiaaGreatDoorJXXl
import Derived.LaidEql
import Derived.Stop.Asserts
import Derived.RowKitTokens
import Derived.Test.YtddmmoehlabkiaaGreatDoorJOl
namespace Go.Proofs.YtddmmoehlabkiaaGreatDoor
set_option linter.unusedVariables false
set_option maxRecDepth 100000
open Go.ChangeShapes Go.WideShapes Go.ChangeAt Go.RowKit
open srt (Tab)
open css (tot Sls OwnS)
open cf (Box)
open txt (Pow)
open dec (str)
open zk (TabK TabS)
open sl (grown_trans grown_refl Sl)
open lq (solveL)
open as_ (asText)
open pt (prf)
open ra (raB raL)
open tr (trueB)
open xe (checkB)
open rq (RP)
open wo (Made)
open sl (qH qU qT)
set_option maxHeartbeats 8000000
namespace yb
def Box4 (t:TypeId)(w:World)(c:Nat)(a b p x:Value):Prop:=w.heap[c]?=some (.cells #[a,b,p,x] t (0,0))
theorem Box4.c0 {t:TypeId}{w:World}{c:Nat}{a b p x:Value}(h:Box4 t w c a b p x):w.cell? ⟨c,0,none⟩=some a:=by
 unfold Box4 at h;simp [World.cell?,h]
theorem Box4.c1 {t:TypeId}{w:World}{c:Nat}{a b p x:Value}(h:Box4 t w c a b p x):w.cell? ⟨c,1,none⟩=some b:=by
 unfold Box4 at h;simp [World.cell?,h]
theorem Box4.c2 {t:TypeId}{w:World}{c:Nat}{a b p x:Value}(h:Box4 t w c a b p x):w.cell? ⟨c,2,none⟩=some p:=by
 unfold Box4 at h;simp [World.cell?,h]
theorem Box4.c3 {t:TypeId}{w:World}{c:Nat}{a b p x:Value}(h:Box4 t w c a b p x):w.cell? ⟨c,3,none⟩=some x:=by
 unfold Box4 at h;simp [World.cell?,h]
theorem Box4.f {t:TypeId}{w:World}{c:Nat}{a b p x:Value}(h:Box4 t w c a b p x)(i:Nat):w.frozen? ⟨c,i,none⟩=false:=by
 unfold Box4 at h;simp [World.frozen?,h]
theorem Box4.lt {t:TypeId}{w:World}{c:Nat}{a b p x:Value}(h:Box4 t w c a b p x):c<w.heap.size:=(Array.getElem?_eq_some_iff.1 h).1
theorem Box4.by {t:TypeId}{w w':World}{c:Nat}{a b p x:Value}{r:Option Nat}(h:Box4 t w c a b p x)(g:w.grownBy w' r)(hr:r≠some c):Box4 t w' c a b p x:=by
 unfold Box4;rw [g.block c h.lt (fun e=>hr e.symm)];exact h
theorem Box4.kept {t:TypeId}{w w':World}{c:Nat}{a b p x:Value}(h:Box4 t w c a b p x)(g:w.grownBy w' none):Box4 t w' c a b p x:=h.by g nofun
theorem Box4.new (t:TypeId)(w:World)(a b p x:Value):Box4 t (w.alloc (.cells #[a,b,p,x] t)) w.heap.size a b p x:=by
 show (w.heap.push _)[w.heap.size]?=_;simp
theorem Box4.set0 {t:TypeId}{w:World}{c:Nat}{a b p x:Value}(h:Box4 t w c a b p x)(u:Value):Box4 t (w.setCell ⟨c,0,none⟩ u) c u b p x:=by
 unfold Box4 at *;simp [World.setCell,Array.getElem?_modify,h]
theorem Box4.set1 {t:TypeId}{w:World}{c:Nat}{a b p x:Value}(h:Box4 t w c a b p x)(u:Value):Box4 t (w.setCell ⟨c,1,none⟩ u) c a u p x:=by
 unfold Box4 at *;simp [World.setCell,Array.getElem?_modify,h]
theorem Box4.set2 {t:TypeId}{w:World}{c:Nat}{a b p x:Value}(h:Box4 t w c a b p x)(u:Value):Box4 t (w.setCell ⟨c,2,none⟩ u) c a b u x:=by
 unfold Box4 at *;simp [World.setCell,Array.getElem?_modify,h]
theorem Box4.set3 {t:TypeId}{w:World}{c:Nat}{a b p x:Value}(h:Box4 t w c a b p x)(u:Value):Box4 t (w.setCell ⟨c,3,none⟩ u) c a b p u:=by
 unfold Box4 at *;simp [World.setCell,Array.getElem?_modify,h]
theorem Box4.setO {t:TypeId}{w:World}{c d i:Nat}{a b p x u:Value}(h:Box4 t w c a b p x)(hd:d≠c):Box4 t (w.setCell ⟨d,i,none⟩ u) c a b p x :=
 h.by (sl.grown_setCell w d i u) (fun e=>hd (by cases e;rfl))
theorem Box4.setA {t:TypeId}{w:World}{c:Nat}{a b p x:Value}(h:Box4 t w c a b p x)(a' b' p' x':Value):Box4 t ((((w.setCell ⟨c,0,none⟩ a').setCell ⟨c,1,none⟩ b').setCell ⟨c,2,none⟩ p').setCell ⟨c,3,none⟩ x') c a' b' p' x':=(((h.set0 a').set1 b').set2 p').set3 x'
theorem size_set (w:World)(a:Addr)(u:Value):(w.setCell a u).heap.size=w.heap.size:=by simp [World.setCell]
theorem grown_set {w w1:World}{c i:Nat}{u:Value}(g:w.grownBy w1 none)(h:w.heap.size<=c):w.grownBy (w1.setCell ⟨c,i,none⟩ u) none :=
 ⟨g.os,g.tape,g.output,by rw [size_set];exact g.size,fun k hk _=>(Below.heap_setCell _ _ _ _ (by show k≠c;omega)).trans (g.block k hk nofun)⟩
theorem grown_setA {w w1:World}{c:Nat}{a b p x:Value}(g:w.grownBy w1 none)(h:w.heap.size<=c):w.grownBy ((((w1.setCell ⟨c,0,none⟩ a).setCell ⟨c,1,none⟩ b).setCell ⟨c,2,none⟩ p).setCell ⟨c,3,none⟩ x) none:=grown_set (grown_set (grown_set (grown_set g h) h) h) h
theorem sizeQ:(Tryz.prog.info? 30).map (·.size)=some 4:=by kernel_rfl
theorem ret_box2 {fn:Func}{p u:Tmp}{tmps:Array Value}{w:World}{c:Nat}{a b q x:Value}(h:fn.results=#[.cell p 30,.tmp u])(hp:tmps.getD p undef=.pointer (some ⟨c,0,none⟩))(hb:Box4 30 w c a b q x) :
  (results fn tmps).run Tryz.prog w=.ok (.tuple #[.agg #[a,b,q,x],tmps.getD u undef]) w:=by
 rw [results_cell_tmp h,hp];simp only [asAddr,Sem.run_pure,Result.andThen_ok];rw [run_loadVar_row w c 30 30 #[a,b,q,x] (0,0) _ hb Tryz.underlying30 rfl sizeQ];rfl
abbrev Cr:=ByteArray × Bool × ByteArray × ByteArray
def cellsC:Option Cr->Array Value
 | some c=>#[.string c.1,.bool c.2.1,.string c.2.2.1,.string c.2.2.2]
 | none=>#[.string ⟨#[]⟩,.bool false,.string ⟨#[]⟩,.string ⟨#[]⟩]
def CertE (w:World)(O:Option Cr)(e:Ending)(w':World):Prop:=e=.returned (.tuple #[.agg (cellsC O),.bool O.isSome])/\w.grownBy w' none
end yb
namespace da
open cx (cnfT)
open cso (srtN srtB srtR srt_tot)
open zo (sumT)
def txtL (n:Int)(LL:List (List Int)):List UInt8:=cnfT (srtN n LL) (srtR n LL)
def digT (n:Int)(LL:List (List Int)):List UInt8:=if srtB n LL && !(txtL n LL).isEmpty then sumT ⟨(txtL n LL).toArray⟩ else []
theorem txt_len (n:Int)(LL:List (List Int)):(txtL n LL).length<=12000:=by
 unfold txtL cx.cnfT
 split
 ·rename_i h
  rw [Bool.and_eq_true,decide_eq_true_iff] at h;exact h.2
 ·exact Nat.zero_le _
theorem empty_list (l:List UInt8):((⟨l.toArray⟩:ByteArray).toList == [])=l.isEmpty:=by
 have e:(⟨l.toArray⟩:ByteArray).toList=l:=by
  rw [ByteArray.toList_eq]
 rw [e];cases l <;> rfl
theorem specDigest (v:Value)(n:Int)(LL:List (List Int))(w:World)(hn:tot LL<=1048576)(hv:Sls w v LL) :
  Calls Tryz.prog 28 #[.agg #[.int .i64 n,v]] w fun e w'=>e=.returned (str (digT n LL))/\w.grownBy w' none:=by
 have g0:=sl.qA w (.cells #[.int .i64 n,v] 26) none;have F0:=qH (Box.new 26 w (.int .i64 n) v);have CS:=qH (cso.specCnfSort v n LL _ hn (hv.kept g0));have CT:=qH (fun u w1 (g:w.grownBy w1 none) (h:Sls w1 u (srtR n LL))=>cx.specCnfText u (srtN n LL) (srtR n LL) w1 (Nat.le_trans (srt_tot n LL) (by decide)) h);have CM:=qH (fun w1 (g:w.grownBy w1 none)=>zp.specSum ⟨(txtL n LL).toArray⟩ w1 (by have:=txt_len n LL;show (txtL n LL).toArray.size<=_;rw [List.size_toArray];omega));have hE:(digT n LL=if srtB n LL && !(txtL n LL).isEmpty then sumT ⟨(txtL n LL).toArray⟩ else []):=rfl;have hem:=empty_list (txtL n LL)
 have G0:=qH g0;have x0:=(qU F0).c0;have x1:=(qU F0).c1
 change Hid (∀ u w1,w.grownBy w1 none->Sls w1 u (srtR n LL)->Calls Tryz.prog 59 #[.agg #[.int .i64 (srtN n LL),u]] w1 fun e w'=>e=.returned (.string ⟨(txtL n LL).toArray⟩)/\w1.grownBy w' none) at CT
 clear hv g0;generalize srtN n LL=NN at *;generalize srtB n LL=bb at *;generalize srtR n LL=RR at *;generalize (⟨(txtL n LL).toArray⟩:ByteArray)=BS at *;generalize sumT BS=SS at *;generalize txtL n LL=TT at *;generalize digT n LL=DD at *;have HE:=qH hE;clear hE;cases bb
 ·have E0:Hid (DD=[]):=(qU HE).trans rfl;clear HE CM hem;go_enter Tryz.func28,Tryz.ntmps28;go_wp2_with fail;refine (qU CS).mono ?_;rintro e w2 ⟨u2,rfl,o2,g2⟩;have GZ:=qT (qU G0) g2;obtain⟨ua,uc,rfl⟩:=o2.len;have ga:=sl.qA w2 (.cells #[.int .i64 NN,.slice ua RR.length uc] 26) none;have C2:=qH (qU CT _ _ (qT GZ ga) (o2.kept ga).sls);have G2:=qH (qT GZ ga);clear o2 g2 ga GZ CT CS x0 x1;go_wp2_with fail;refine (qU C2).mono ?_;rintro e w3 ⟨rfl,g3⟩;have G3:=qH (qT (qU G2) g3);clear g3 C2;go_wp2_with fail;go_ret
  exact⟨by rw [qU E0];rfl,qU G3⟩
 ·cases hT0:TT.isEmpty
  ·have E0:Hid (DD=SS):=by show _=_;rw [qU HE,hT0];rfl
   rw [hT0] at hem;clear HE hT0;go_enter Tryz.func28,Tryz.ntmps28;go_wp2_with fail;refine (qU CS).mono ?_;rintro e w2 ⟨u2,rfl,o2,g2⟩;have GZ:=qT (qU G0) g2;obtain⟨ua,uc,rfl⟩:=o2.len;have ga:=sl.qA w2 (.cells #[.int .i64 NN,.slice ua RR.length uc] 26) none;have C2:=qH (qU CT _ _ (qT GZ ga) (o2.kept ga).sls);have G2:=qH (qT GZ ga);clear o2 g2 ga GZ CT CS x0 x1;go_wp2_with fail;refine (qU C2).mono ?_;rintro e w3 ⟨rfl,g3⟩;have G3:=qH (qT (qU G2) g3);clear g3 C2;go_wp2_with fail;refine (qU CM w3 (qU G3)).mono ?_;rintro e w4 ⟨rfl,g4⟩
   have G4:=qH (qT (qU G3) g4);clear g4 CM;go_wp2_with fail;go_ret;exact⟨by rw [qU E0];rfl,qU G4⟩
  ·have E0:Hid (DD=[]):=by show _=_;rw [qU HE,hT0];rfl
   rw [hT0] at hem;clear HE hT0 CM;go_enter Tryz.func28,Tryz.ntmps28;go_wp2_with fail;refine (qU CS).mono ?_;rintro e w2 ⟨u2,rfl,o2,g2⟩;have GZ:=qT (qU G0) g2;obtain⟨ua,uc,rfl⟩:=o2.len;have ga:=sl.qA w2 (.cells #[.int .i64 NN,.slice ua RR.length uc] 26) none;have C2:=qH (qU CT _ _ (qT GZ ga) (o2.kept ga).sls);have G2:=qH (qT GZ ga);clear o2 g2 ga GZ CT CS x0 x1;go_wp2_with fail;refine (qU C2).mono ?_;rintro e w3 ⟨rfl,g3⟩;have G3:=qH (qT (qU G2) g3);clear g3 C2;go_wp2_with fail;go_ret;exact⟨by rw [qU E0];rfl,qU G3⟩
theorem implDigest (v:Value)(n:Int)(LL:List (List Int))(w:World)(hT:Tab w)(hP:Pow w)(hK:TabK w)(hS:TabS w)(hn:tot LL<=1048576)(hv:Sls w v LL) :
  Calls Tryz.prog 11 #[.agg #[.int .i64 n,v]] w fun e w'=>e=.returned (str (digT n LL))/\w.grownBy w' none:=by
 have g0:=sl.qA w (.cells #[.int .i64 n,v] 26) none;have F0:=qH (Box.new 26 w (.int .i64 n) v);have CS:=qH (cso.implCnfSort v n LL _ (hT.kept g0) hn (hv.kept g0));have CT:=qH (fun u w1 (g:w.grownBy w1 none) (h:Sls w1 u (srtR n LL))=>cx.implCnfText u (srtN n LL) (srtR n LL) w1 (hP.kept g) (Nat.le_trans (srt_tot n LL) (by decide)) h);have CM:=qH (fun w1 (g:w.grownBy w1 none)=>zo.implSum ⟨(txtL n LL).toArray⟩ w1 (by have:=txt_len n LL;show (txtL n LL).toArray.size<=_;rw [List.size_toArray];omega) (hK.kept g) (hS.kept g));have hE:(digT n LL=if srtB n LL && !(txtL n LL).isEmpty then sumT ⟨(txtL n LL).toArray⟩ else []):=rfl
 have hem:=empty_list (txtL n LL);have G0:=qH g0;have x0:=(qU F0).c0;have x1:=(qU F0).c1
 change Hid (∀ u w1,w.grownBy w1 none->Sls w1 u (srtR n LL)->Calls Tryz.prog 38 #[.agg #[.int .i64 (srtN n LL),u]] w1 fun e w'=>e=.returned (.string ⟨(txtL n LL).toArray⟩)/\w1.grownBy w' none) at CT
 clear hv g0 hT hP hK hS;generalize srtN n LL=NN at *;generalize srtB n LL=bb at *;generalize srtR n LL=RR at *;generalize (⟨(txtL n LL).toArray⟩:ByteArray)=BS at *;generalize sumT BS=SS at *;generalize txtL n LL=TT at *;generalize digT n LL=DD at *;have HE:=qH hE;clear hE;cases bb
 ·have E0:Hid (DD=[]):=(qU HE).trans rfl;clear HE CM hem;go_enter Tryz.func11,Tryz.ntmps11;go_wp2_with fail;refine (qU CS).mono ?_;rintro e w2 ⟨u2,rfl,o2,g2⟩;have GZ:=qT (qU G0) g2;obtain⟨ua,uc,rfl⟩:=o2.len;have ga:=sl.qA w2 (.cells #[.int .i64 NN,.slice ua RR.length uc] 26) none;have C2:=qH (qU CT _ _ (qT GZ ga) (o2.kept ga).sls);have G2:=qH (qT GZ ga);clear o2 g2 ga GZ CT CS x0 x1;go_wp2_with fail;refine (qU C2).mono ?_;rintro e w3 ⟨rfl,g3⟩;have G3:=qH (qT (qU G2) g3);clear g3 C2;go_wp2_with fail;go_ret
  exact⟨by rw [qU E0];rfl,qU G3⟩
 ·cases hT0:TT.isEmpty
  ·have E0:Hid (DD=SS):=by show _=_;rw [qU HE,hT0];rfl
   rw [hT0] at hem;clear HE hT0;go_enter Tryz.func11,Tryz.ntmps11;go_wp2_with fail;refine (qU CS).mono ?_;rintro e w2 ⟨u2,rfl,o2,g2⟩;have GZ:=qT (qU G0) g2;obtain⟨ua,uc,rfl⟩:=o2.len;have ga:=sl.qA w2 (.cells #[.int .i64 NN,.slice ua RR.length uc] 26) none;have C2:=qH (qU CT _ _ (qT GZ ga) (o2.kept ga).sls);have G2:=qH (qT GZ ga);clear o2 g2 ga GZ CT CS x0 x1;go_wp2_with fail;refine (qU C2).mono ?_;rintro e w3 ⟨rfl,g3⟩;have G3:=qH (qT (qU G2) g3);clear g3 C2;go_wp2_with fail;refine (qU CM w3 (qU G3)).mono ?_;rintro e w4 ⟨rfl,g4⟩
   have G4:=qH (qT (qU G3) g4);clear g4 CM;go_wp2_with fail;go_ret;exact⟨by rw [qU E0];rfl,qU G4⟩
  ·have E0:Hid (DD=[]):=by show _=_;rw [qU HE,hT0];rfl
   rw [hT0] at hem;clear HE hT0 CM;go_enter Tryz.func11,Tryz.ntmps11;go_wp2_with fail;refine (qU CS).mono ?_;rintro e w2 ⟨u2,rfl,o2,g2⟩;have GZ:=qT (qU G0) g2;obtain⟨ua,uc,rfl⟩:=o2.len;have ga:=sl.qA w2 (.cells #[.int .i64 NN,.slice ua RR.length uc] 26) none;have C2:=qH (qU CT _ _ (qT GZ ga) (o2.kept ga).sls);have G2:=qH (qT GZ ga);clear o2 g2 ga GZ CT CS x0 x1;go_wp2_with fail;refine (qU C2).mono ?_;rintro e w3 ⟨rfl,g3⟩;have G3:=qH (qT (qU G2) g3);clear g3 C2;go_wp2_with fail;go_ret;exact⟨by rw [qU E0];rfl,qU G3⟩
end da
namespace zr
open sl (ret_bool)
open ze (bts)
theorem implMac2 (key s:ByteArray)(w:World)(h1:key.size<=1048576)(h2:s.size<=2097152)(hK:TabK w)(hS:TabS w) :
  Calls Tryz.prog 26 #[.string key,.string s] w fun r w'=>r=.returned (str (macT key s))/\w.grownBy w' none:=by
 by_cases h:s.size<=1048576
 ·exact implMac key s w h1 h hK hS
 rw [show macT key s=[] by unfold macT;rw [if_neg (fun q=>by omega)]];have i2:(59800:Int)<(s.size:Int):=by omega
 by_cases k1:key.size<=64
 ·have i1:¬ (64:Int)<(key.size:Int):=by omega
  go_enter Tryz.func26,Tryz.ntmps26;go_wp2;go_ret;exact⟨rfl,grown_refl _⟩
 ·have i1:(64:Int)<(key.size:Int):=by omega
  go_enter Tryz.func26,Tryz.ntmps26;go_wp2;go_ret;exact⟨rfl,grown_refl _⟩
theorem specMac2 (key s:ByteArray)(w:World)(h1:key.size<=1048576)(h2:s.size<=2097152) :
  Calls Tryz.prog 32 #[.string key,.string s] w fun r w'=>r=.returned (str (macT key s))/\w.grownBy w' none:=by
 by_cases h:s.size<=1048576
 ·exact specMac key s w h1 h
 rw [show macT key s=[] by unfold macT;rw [if_neg (fun q=>by omega)]];have i2:(59800:Int)<(s.size:Int):=by omega
 by_cases k1:key.size<=64
 ·have i1:¬ (64:Int)<(key.size:Int):=by omega
  go_enter Tryz.func32,Tryz.ntmps32;go_wp2;go_ret;exact⟨rfl,grown_refl _⟩
 ·have i1:(64:Int)<(key.size:Int):=by omega
  go_enter Tryz.func32,Tryz.ntmps32;go_wp2;go_ret;exact⟨rfl,grown_refl _⟩
theorem implMacOk2 (key s mark:ByteArray)(w:World)(h1:key.size<=1048576)(h2:s.size<=2097152)(hK:TabK w)(hS:TabS w) :
  Calls Tryz.prog 68 #[.string key,.string s,.string mark] w fun r w'=>r=.returned (.bool (okM key s mark))/\w.grownBy w' none:=by
 have C:=qH (implMac2 key s w h1 h2 hK hS);unfold okM;generalize macT key s=X at *;unfold dec.str at C;clear hK hS;go_enter Tryz.func68,Tryz.ntmps68;go_wp2_with fail;refine (qU C).mono ?_;rintro r w1 ⟨rfl,g1⟩;have G1:=qH g1;clear g1 C;go_wp2_with fail
 ·rename_i hX
  go_ret;exact⟨ret_bool (by rw [hX];simp),qU G1⟩
 ·rename_i hX
  go_ret;refine⟨ret_bool ?_,qU G1⟩;rw [show mark.toList=bts mark from ByteArray.toList_eq mark,Bool.eq_iff_iff];simp [hX]
theorem specMacOk2 (key s mark:ByteArray)(w:World)(h1:key.size<=1048576)(h2:s.size<=2097152) :
  Calls Tryz.prog 42 #[.string key,.string s,.string mark] w fun r w'=>r=.returned (.bool (okM key s mark))/\w.grownBy w' none:=by
 have C:=qH (specMac2 key s w h1 h2);unfold okM;generalize macT key s=X at *;unfold dec.str at C;have tl:mark.toList=bts mark:=ByteArray.toList_eq mark;by_cases h0:bts mark=[]
 ·have hb:(!mark.toList.isEmpty)=false:=by rw [tl,h0];rfl
  have HD:Hid (decide (X≠[]/\bts mark=X)=false):=by
   apply decide_eq_false;rintro⟨a,b⟩;exact a (by rw [←b,h0])
  clear tl h0 C;go_enter Tryz.func42,Tryz.ntmps42;go_wp2_with fail;go_ret;rw [qU HD];exact⟨rfl,grown_refl _⟩
 ·have hb:(!mark.toList.isEmpty)=true:=by
   rw [tl];cases hm:bts mark with
   | nil=>exact absurd hm h0
   | cons _ _=>rfl
  have HD:Hid (decide (X≠[]/\bts mark=X)=(X == mark.toList)):=by
   show _=_;rw [tl,Bool.eq_iff_iff,decide_eq_true_iff,beq_iff_eq]
   constructor
   ·rintro⟨a,b⟩;exact b.symm
   ·intro e;rw [e];exact⟨h0,rfl⟩
  clear tl h0;go_enter Tryz.func42,Tryz.ntmps42;go_wp2_with fail;refine (qU C).mono ?_;rintro r w1 ⟨rfl,g1⟩;have G1:=qH g1;clear g1 C;go_wp2_with fail;go_ret;rw [qU HD];exact⟨rfl,qU G1⟩
end zr
namespace yg
def sgB (d:ByteArray)(sat:Bool)(b:ByteArray):ByteArray:=d++(if sat then ⟨#[1]⟩ else ⟨#[0]⟩)++b
theorem sg_size (d:ByteArray)(sat:Bool)(b:ByteArray):(sgB d sat b).size=d.size+1+b.size:=by
 unfold sgB;rw [ByteArray.size_append,ByteArray.size_append];cases sat <;> rfl
theorem implSigned (d:ByteArray)(sat:Bool)(b m:ByteArray)(w:World)(hd:d.size<=1048576)(hb:b.size<=1048576) :
  Calls Tryz.prog 27 #[.agg #[.string d,.bool sat,.string b,.string m]] w fun e w'=>e=.returned (.string (sgB d sat b))/\w.grownBy w' none:=by
 have n0:¬ 9223372036854775807<d.size+1:=by omega
 have n1:¬ 9223372036854775807<d.size+1+b.size:=by omega
 have G0:=qH (sl.qA w (.cells #[.string d,.bool sat,.string b,.string m] 30) none);unfold sgB;cases sat
 ·go_enter Tryz.func27,Tryz.ntmps27;go_wp2;go_ret;exact⟨rfl,qU G0⟩
 ·go_enter Tryz.func27,Tryz.ntmps27;go_wp2;go_ret;exact⟨rfl,qU G0⟩
theorem one_back (wr:World)(x:UInt8)(k:Nat)(hk:wr.heap.size=k):(convert 22 9 (.slice (some ⟨k,0,none⟩) 1 1)).run Tryz.prog (wr.alloc (.cells #[.int .u8 x.toNat] 5))=.ok (.string ⟨#[x]⟩) (wr.alloc (.cells #[.int .u8 x.toNat] 5)):=by
 subst hk;refine run_convert_bytes_back (P:=Tryz.prog) _ 22 9 5 ⟨wr.heap.size,0,none⟩ 1 [x] Tryz.underlying22 Tryz.underlying5 Tryz.underlying9 fun j hj=>ze.one_at wr x j _ ?_;obtain rfl:j=0:=by simp only [List.length_cons,List.length_nil] at hj;omega
 rfl
theorem specSigned (d:ByteArray)(sat:Bool)(b m:ByteArray)(w:World)(hd:d.size<=1048576)(hb:b.size<=1048576) :
  Calls Tryz.prog 33 #[.agg #[.string d,.bool sat,.string b,.string m]] w fun e w'=>e=.returned (.string (sgB d sat b))/\w.grownBy w' none:=by
 have n0:¬ 9223372036854775807<d.size+1:=by omega
 have n1:¬ 9223372036854775807<d.size+1+b.size:=by omega
 obtain⟨W0,hW0⟩:∃ W0,W0=w.alloc (.cells #[.string d,.bool sat,.string b,.string m] 30):=⟨_,rfl⟩;have G0:Hid (w.grownBy W0 none):=by rw [hW0];exact sl.qA w _ none
 have hz:W0.heap.size=w.heap.size+1:=by rw [hW0,World.size_alloc]
 have c1:=one_back W0 0 (w.heap.size+1) hz;have c2:=one_back (W0.alloc (.cells #[.int .u8 (0:UInt8).toNat] 5)) 1 (w.heap.size+1+1) (by rw [World.size_alloc,hz]);rw [hW0] at c1 c2;have G1:Hid (W0.grownBy (W0.alloc (.cells #[.int .u8 0] 5)) none):=sl.qA _ _ none;have G2:Hid (W0.grownBy ((W0.alloc (.cells #[.int .u8 0] 5)).alloc (.cells #[.int .u8 1] 5)) none):=grown_trans (sl.qA _ _ none) (sl.qA _ _ none);rw [hW0] at G0 G1 G2;clear hW0 hz;unfold sgB;cases sat
 ·have C1:(convert 22 9 (.slice (some ⟨w.heap.size+1,0,none⟩) 1 1)).run Tryz.prog ((w.alloc (.cells #[.string d,.bool false,.string b,.string m] 30)).alloc (.cells #[.int .u8 0] 5))=.ok (.string ⟨#[0]⟩) ((w.alloc (.cells #[.string d,.bool false,.string b,.string m] 30)).alloc (.cells #[.int .u8 0] 5)):=c1;clear c1 c2;go_enter Tryz.func33,Tryz.ntmps33;go_wp2;go_ret;exact⟨rfl,qT (qU G0) (qU G1)⟩
 ·have C1:(convert 22 9 (.slice (some ⟨w.heap.size+1,0,none⟩) 1 1)).run Tryz.prog ((w.alloc (.cells #[.string d,.bool true,.string b,.string m] 30)).alloc (.cells #[.int .u8 0] 5))=.ok (.string ⟨#[0]⟩) ((w.alloc (.cells #[.string d,.bool true,.string b,.string m] 30)).alloc (.cells #[.int .u8 0] 5)):=c1;have C2:(convert 22 9 (.slice (some ⟨w.heap.size+1+1,0,none⟩) 1 1)).run Tryz.prog (((w.alloc (.cells #[.string d,.bool true,.string b,.string m] 30)).alloc (.cells #[.int .u8 0] 5)).alloc (.cells #[.int .u8 1] 5))=.ok (.string ⟨#[1]⟩) (((w.alloc (.cells #[.string d,.bool true,.string b,.string m] 30)).alloc (.cells #[.int .u8 0] 5)).alloc (.cells #[.int .u8 1] 5)):=c2
  clear c1 c2;go_enter Tryz.func33,Tryz.ntmps33;go_wp2;go_ret;exact⟨rfl,qT (qU G0) (qU G2)⟩
end yg
namespace yh
open ok (cnfB)
open xw (wlk)
def refL (n:Int)(LL:List (List Int)):List (List Int) × Bool:=if cnfB n LL then wlk n LL 700 [] else ([],false)
def fnd (n:Int)(LL:List (List Int)):(List Int ⊕ List (List Int)) × Bool:=match solveL n LL [] with
 | some A=>(.inl A,true)
 | none=>(.inr (refL n LL).1,(refL n LL).2)
end yh
namespace yi
open da (digT)
open zr (macT)
open yb (Cr)
open yg (sgB)
open yh (fnd)
theorem solve_len (n:Int)(LL:List (List Int))(a:List Int):((solveL n LL a).getD []).length<=24:=by
 unfold lq.solveL
 split
 ·rename_i h
  rw [Bool.and_eq_true] at h;obtain⟨m,rfl,h24⟩:∃ m:Nat,n=(m:Int)/\m<=24:=by
   have h1:=h.1;unfold ok.cnfB at h1;simp only [Bool.and_eq_true,decide_eq_true_iff] at h1;exact⟨n.toNat,by omega,by omega⟩
  cases e:lq.lst ((m:Int)).toNat (lq.holds LL a) with
  | none=>exact Nat.zero_le _
  | some l =>
   have:=(lq.lst_some e).1.1;show l.length<=24;omega
 ·exact Nat.zero_le _
def bodyB:List Int ⊕ List (List Int)->ByteArray
 | .inl A=>⟨(asText A).toArray⟩
 | .inr R=>⟨(prf R).toArray⟩
def satB:List Int ⊕ List (List Int)->Bool
 | .inl _=>true
 | .inr _=>false
def markB (key d:ByteArray)(sat:Bool)(b:ByteArray):ByteArray:=⟨(macT key (sgB d sat b)).toArray⟩
def digB (n:Int)(LL:List (List Int)):ByteArray:=⟨(digT n LL).toArray⟩
def issO (key:ByteArray)(n:Int)(LL:List (List Int)):Option Cr :=
 if digT n LL=[]∨64<key.size∨(fnd n LL).2=false then none
 else some (digB n LL,satB (fnd n LL).1,bodyB (fnd n LL).1,markB key (digB n LL) (satB (fnd n LL).1) (bodyB (fnd n LL).1))
theorem dig_size (n:Int)(LL:List (List Int)):(digB n LL).size<=1024:=by
 show (digT n LL).toArray.size<=_;rw [List.size_toArray];unfold da.digT
 split
 ·exact Nat.le_trans (zr.sumT_len _) (by decide)
 ·exact Nat.zero_le _
theorem body_size (P:List Int ⊕ List (List Int)):(bodyB P).size<=400000:=by
 cases P with
 | inl A =>
  show (asText A).toArray.size<=_;rw [List.size_toArray];unfold as_.asText
  split
  ·exact Nat.le_trans (cx.text_len _) (by decide)
  ·exact Nat.zero_le _
 | inr R =>
  show (prf R).toArray.size<=_;rw [List.size_toArray];unfold pt.prf
  split
  ·rename_i h
   rw [Bool.and_eq_true,decide_eq_true_iff] at h;have:=cx.lines_len R;omega
  ·exact Nat.zero_le _
end yi
namespace ym
open Go.RowKit Go.Extern.Stop Go.Stop Go.Extern
theorem typeOf_ (v:Value)(w:World):(Extern.ReflectliteType.typeOf #[.iface 273 v]).run Tryz.prog w=.ok (.iface 158 (.agg #[.pointer (some ⟨12,273,none⟩)])) w:=by kernel_rfl
def cmpE := Extern.ReflectliteType.method fun t => do Go.Extern.Rtype.noPackHeld "Comparable" t; pure (.bool (← typeInfo t).comparable)
theorem comparable_ (w:World):(cmpE #[.agg #[.pointer (some ⟨12,273,none⟩)]]).run Tryz.prog w=.ok (.bool true) w:=by kernel_rfl
theorem methodC (v : Value) (w : World) : (Go.method 407 158 v "Comparable").run Tryz.prog w = .ok (269, v) w := by kernel_rfl
theorem isComp:(Tryz.prog.info? 273).map (·.comparable)=some true:=by kernel_rfl
theorem isSize:(Tryz.prog.info? 275).map (·.size)=some 1:=by kernel_rfl
theorem noIsE (v:Value)(xT:TypeId)(w:World):(Instr.typeAssert (.iface 273 v) xT 160 true).run Tryz.prog w=.ok (.tuple #[.nilIface,.bool false]) w:=run_typeAssert_lacksB Tryz.underlying160 (by kernel_rfl) (by kernel_rfl) v xT w
theorem noUnE (v:Value)(xT:TypeId)(w:World):(Instr.typeAssert (.iface 273 v) xT 163 true).run Tryz.prog w=.ok (.tuple #[.nilIface,.bool false]) w:=run_typeAssert_lacksB Tryz.underlying163 (by kernel_rfl) (by kernel_rfl) v xT w
theorem noUsE (v:Value)(xT:TypeId)(w:World):(Instr.typeAssert (.iface 273 v) xT 165 true).run Tryz.prog w=.ok (.tuple #[.nilIface,.bool false]) w:=run_typeAssert_lacksB Tryz.underlying165 (by kernel_rfl) (by kernel_rfl) v xT w
theorem noIsR (v:Value)(xT:TypeId)(w:World):(Instr.typeAssert (.iface 156 v) xT 160 true).run Tryz.prog w=.ok (.tuple #[.nilIface,.bool false]) w:=run_typeAssert_lacksB Tryz.underlying160 (by kernel_rfl) (by kernel_rfl) v xT w
theorem hasUn (v:Value)(xT:TypeId)(w:World):(Instr.typeAssert (.iface 156 v) xT 163 true).run Tryz.prog w=.ok (.tuple #[.iface 156 v,.bool true]) w:=run_typeAssert_hasB Tryz.underlying163 (by kernel_rfl) v xT w
theorem methodU (v : Value) (w : World) : (Go.method 407 156 v "Unwrap").run Tryz.prog w = .ok (265, v) w := by kernel_rfl
theorem unwrap (c x:Value)(w:World):Calls Tryz.prog 265 #[.agg #[c,x]] w fun e w'=>e=.returned x/\w.grownBy w' none:=by
 have G0:=qH (sl.qA w (.cells #[c,x] 156) none);go_enter Tryz.func265,Tryz.ntmps265;go_wp2;go_ret;exact⟨rfl,qU G0⟩
theorem isNil (b:Addr)(w:World) :
  Calls Tryz.prog 35 #[.nilIface,.iface 273 (.pointer (some b))] w fun e w'=>e=.returned (.bool false)/\w'=w:=by
 have hn:=run_eql_iface_nil_left (P:=Tryz.prog) w 273 (.pointer (some b)) Tryz.underlying68;go_enter Tryz.func35,Tryz.ntmps35;go_wp2;go_ret;exact⟨rfl,rfl⟩
def Two (w:World)(a b:Addr):Prop:=a≠b/\(∃ ca ta,w.heap[a.block]?=some (.cells ca ta (0,0)))/\∃ cb tb,w.heap[b.block]?=some (.cells cb tb (0,0))
theorem loopYes (c:Int)(b:Addr)(w:World) :
  Calls Tryz.prog 72 #[.iface 156 (.agg #[.int .i64 c,.iface 273 (.pointer (some b))]),.iface 273 (.pointer (some b)),.bool true] w fun e w'=>e=.returned (.bool true)/\w.grownBy w' none:=by
 obtain⟨i,hi,hcmp⟩:=Option.map_eq_some_iff.1 isComp;obtain⟨j,hj,hjs⟩:=Option.map_eq_some_iff.1 isSize;have nE:=noIsE;have uE:=noUnE;have vE:=noUsE;have nW:=noIsR;have uW:=hasUn;have mU:=methodU;have heq:=fun w=>run_eql_iface_ptr_same (P:=Tryz.prog) w b Tryz.underlying68 Tryz.underlying273 hi hcmp hj;have hty:=fun w=>run_eql_iface_types (P:=Tryz.prog) 156 273 (.agg #[.int .i64 c,.iface 273 (.pointer (some b))]) (.pointer (some b)) Tryz.underlying68 (by decide) w;go_enter Tryz.func72,Tryz.ntmps72;go_wp2;refine wp_loop_rounds 2 ?_;rw [rounds_succ];go_wp2_with fail;refine (unwrap _ _ _).mono ?_;rintro e w1 ⟨rfl,g1⟩
 have G1:=qH g1;have HQ:=heq w1;clear g1 heq hty;go_wp2_with fail;rw [rounds_succ];go_wp2_with fail;go_ret;exact⟨rfl,qU G1⟩
theorem Two.kept {w w':World}{a b:Addr}(h:Two w a b)(g:w.grownBy w' none):Two w' a b:=by
 obtain⟨h0,⟨ca,ta,h1⟩,cb,tb,h2⟩:=h;exact⟨h0,⟨ca,ta,(g.block _ (Array.getElem?_eq_some_iff.1 h1).1 nofun).trans h1⟩,cb,tb,(g.block _ (Array.getElem?_eq_some_iff.1 h2).1 nofun).trans h2⟩
theorem loopNo (c:Int)(a b:Addr)(w:World)(h:Two w a b) :
  Calls Tryz.prog 72 #[.iface 156 (.agg #[.int .i64 c,.iface 273 (.pointer (some a))]),.iface 273 (.pointer (some b)),.bool true] w fun e w'=>e=.returned (.bool false)/\w.grownBy w' none:=by
 obtain⟨i,hi,hcmp⟩:=Option.map_eq_some_iff.1 isComp;obtain⟨j,hj,hjs⟩:=Option.map_eq_some_iff.1 isSize;have nE:=noIsE;have uE:=noUnE;have vE:=noUsE;have nW:=noIsR;have uW:=hasUn;have mU:=methodU;have heq:∀ w1,w.grownBy w1 none->(binOp .eql 68 (.iface 273 (.pointer (some a))) (.iface 273 (.pointer (some b)))).run Tryz.prog w1=.ok (.bool false) w1:=fun w1 (g:w.grownBy w1 none)=>by
  obtain⟨hne,⟨ca,ta,ha⟩,cb,tb,hb⟩:=h.kept g;exact run_eql_iface_ptr_other (P:=Tryz.prog) w1 Tryz.underlying68 Tryz.underlying273 hi hcmp hj (by rw [hjs];decide) hne ha hb
 have hty:=fun w=>run_eql_iface_types (P:=Tryz.prog) 156 273 (.agg #[.int .i64 c,.iface 273 (.pointer (some a))]) (.pointer (some b)) Tryz.underlying68 (by decide) w;go_enter Tryz.func72,Tryz.ntmps72;go_wp2;refine wp_loop_rounds 2 ?_;rw [rounds_succ];go_wp2_with fail;refine (unwrap _ _ _).mono ?_;rintro e w1 ⟨rfl,g1⟩;have G1:=qH g1;have HQ:=heq w1 g1;clear g1 heq hty;go_wp2_with fail;rw [rounds_succ];go_wp2_with fail;go_ret;exact⟨rfl,qU G1⟩
theorem isYes (c:Int)(b:Addr)(w:World) :
  Calls Tryz.prog 35 #[.iface 156 (.agg #[.int .i64 c,.iface 273 (.pointer (some b))]),.iface 273 (.pointer (some b))] w fun e w'=>e=.returned (.bool true)/\w.grownBy w' none:=by
 have h8:=@run_callFunc_extern Tryz.prog 71 _ Extern.ReflectliteType.typeOf Tryz.func71 (by kernel_rfl) (by kernel_rfl) (by kernel_rfl) (by kernel_rfl);have h32:=@run_callFunc_extern Tryz.prog 269 _ cmpE Tryz.func269 (by kernel_rfl) (by kernel_rfl) (by kernel_rfl) (by kernel_rfl);have tT:=typeOf_;have cT:=comparable_;have mR:=methodC;have CL:=qH (loopYes c b w);go_enter Tryz.func35,Tryz.ntmps35;go_wp2_with fail;refine (qU CL).mono ?_;rintro e w1 ⟨rfl,g1⟩;have G1:=qH g1;clear g1;go_wp2_with fail;go_ret;exact⟨rfl,qU G1⟩
theorem isNo (c:Int)(a b:Addr)(w:World)(h:Two w a b) :
  Calls Tryz.prog 35 #[.iface 156 (.agg #[.int .i64 c,.iface 273 (.pointer (some a))]),.iface 273 (.pointer (some b))] w fun e w'=>e=.returned (.bool false)/\w.grownBy w' none:=by
 have h8:=@run_callFunc_extern Tryz.prog 71 _ Extern.ReflectliteType.typeOf Tryz.func71 (by kernel_rfl) (by kernel_rfl) (by kernel_rfl) (by kernel_rfl);have h32:=@run_callFunc_extern Tryz.prog 269 _ cmpE Tryz.func269 (by kernel_rfl) (by kernel_rfl) (by kernel_rfl) (by kernel_rfl);have tT:=typeOf_;have cT:=comparable_;have mR:=methodC;have CL:=qH (loopNo c a b w h);go_enter Tryz.func35,Tryz.ntmps35;go_wp2_with fail;refine (qU CL).mono ?_;rintro e w1 ⟨rfl,g1⟩;have G1:=qH g1;clear g1;go_wp2_with fail;go_ret;exact⟨rfl,qU G1⟩
end ym
namespace yn
open ym (Two)
structure Errs (w:World) (a1 a2 a3 a4:Addr):Prop where
 e1:w.cell? ⟨0,0,none⟩=some (.iface 273 (.pointer (some a1)))
 e2:w.cell? ⟨1,0,none⟩=some (.iface 273 (.pointer (some a2)))
 e3:w.cell? ⟨2,0,none⟩=some (.iface 273 (.pointer (some a3)))
 e4:w.cell? ⟨3,0,none⟩=some (.iface 273 (.pointer (some a4)))
 t12:Two w a1 a2
 t13:Two w a1 a3
 t14:Two w a1 a4
 t23:Two w a2 a3
 t24:Two w a2 a4
 t34:Two w a3 a4
theorem Two.symm {w:World}{a b:Addr}(h:Two w a b):Two w b a:=⟨h.1.symm,h.2.2,h.2.1⟩
theorem Errs.kept {w w':World}{a1 a2 a3 a4:Addr}(h:Errs w a1 a2 a3 a4)(g:w.grownBy w' none):Errs w' a1 a2 a3 a4 :=
 ⟨g.cell h.e1 nofun,g.cell h.e2 nofun,g.cell h.e3 nofun,g.cell h.e4 nofun,h.t12.kept g,h.t13.kept g,h.t14.kept g,h.t23.kept g,h.t24.kept g,h.t34.kept g⟩
def pick (a1 a2 a3 a4:Addr)(k:Nat):Addr:=if k=1 then a1 else if k=2 then a2 else if k=3 then a3 else a4
theorem reason1 {a1 a2 a3 a4:Addr}(w:World)(h:Errs w a1 a2 a3 a4):Calls Tryz.prog 36 #[.int .i64 1] w fun e w'=>e=.returned (.iface 273 (.pointer (some a1)))/\w'=w:=by
 have c:=h.e1;clear h;go_enter Tryz.func36,Tryz.ntmps36;go_wp2;go_ret;exact⟨rfl,rfl⟩
theorem refuse1 {a1 a2 a3 a4:Addr}(w:World)(h:Errs w a1 a2 a3 a4):Calls Tryz.prog 69 #[.int .i64 1] w fun e w'=>e=.returned (.iface 156 (.agg #[.int .i64 1,.iface 273 (.pointer (some a1))]))/\w'=w:=by
 have C:=qH (reason1 w h);clear h;go_enter Tryz.func69,Tryz.ntmps69;go_wp2_with fail;refine (qU C).mono ?_;rintro e w1 ⟨rfl,hw⟩;have hw':=hw.symm;clear hw;subst hw';go_wp2_with fail;go_ret;exact⟨rfl,rfl⟩
theorem reason2 {a1 a2 a3 a4:Addr}(w:World)(h:Errs w a1 a2 a3 a4):Calls Tryz.prog 36 #[.int .i64 2] w fun e w'=>e=.returned (.iface 273 (.pointer (some a2)))/\w'=w:=by
 have c:=h.e2;clear h;go_enter Tryz.func36,Tryz.ntmps36;go_wp2;go_ret;exact⟨rfl,rfl⟩
theorem refuse2 {a1 a2 a3 a4:Addr}(w:World)(h:Errs w a1 a2 a3 a4):Calls Tryz.prog 69 #[.int .i64 2] w fun e w'=>e=.returned (.iface 156 (.agg #[.int .i64 2,.iface 273 (.pointer (some a2))]))/\w'=w:=by
 have C:=qH (reason2 w h);clear h;go_enter Tryz.func69,Tryz.ntmps69;go_wp2_with fail;refine (qU C).mono ?_;rintro e w1 ⟨rfl,hw⟩;have hw':=hw.symm;clear hw;subst hw';go_wp2_with fail;go_ret;exact⟨rfl,rfl⟩
theorem reason3 {a1 a2 a3 a4:Addr}(w:World)(h:Errs w a1 a2 a3 a4):Calls Tryz.prog 36 #[.int .i64 3] w fun e w'=>e=.returned (.iface 273 (.pointer (some a3)))/\w'=w:=by
 have c:=h.e3;clear h;go_enter Tryz.func36,Tryz.ntmps36;go_wp2;go_ret;exact⟨rfl,rfl⟩
theorem refuse3 {a1 a2 a3 a4:Addr}(w:World)(h:Errs w a1 a2 a3 a4):Calls Tryz.prog 69 #[.int .i64 3] w fun e w'=>e=.returned (.iface 156 (.agg #[.int .i64 3,.iface 273 (.pointer (some a3))]))/\w'=w:=by
 have C:=qH (reason3 w h);clear h;go_enter Tryz.func69,Tryz.ntmps69;go_wp2_with fail;refine (qU C).mono ?_;rintro e w1 ⟨rfl,hw⟩;have hw':=hw.symm;clear hw;subst hw';go_wp2_with fail;go_ret;exact⟨rfl,rfl⟩
theorem reason4 {a1 a2 a3 a4:Addr}(w:World)(h:Errs w a1 a2 a3 a4):Calls Tryz.prog 36 #[.int .i64 4] w fun e w'=>e=.returned (.iface 273 (.pointer (some a4)))/\w'=w:=by
 have c:=h.e4;clear h;go_enter Tryz.func36,Tryz.ntmps36;go_wp2;go_ret;exact⟨rfl,rfl⟩
theorem refuse4 {a1 a2 a3 a4:Addr}(w:World)(h:Errs w a1 a2 a3 a4):Calls Tryz.prog 69 #[.int .i64 4] w fun e w'=>e=.returned (.iface 156 (.agg #[.int .i64 4,.iface 273 (.pointer (some a4))]))/\w'=w:=by
 have C:=qH (reason4 w h);clear h;go_enter Tryz.func69,Tryz.ntmps69;go_wp2_with fail;refine (qU C).mono ?_;rintro e w1 ⟨rfl,hw⟩;have hw':=hw.symm;clear hw;subst hw';go_wp2_with fail;go_ret;exact⟨rfl,rfl⟩
def ans (a1 a2 a3 a4:Addr)(k:Nat):Value:=if k=0 then .nilIface else .iface 156 (.agg #[.int .i64 (k:Int),.iface 273 (.pointer (some (pick a1 a2 a3 a4 k)))])
theorem asked {a1 a2 a3 a4:Addr}(w:World)(h:Errs w a1 a2 a3 a4)(k j:Nat)(hk:k<=4)(hj:1<=j/\j<=4) :
  Calls Tryz.prog 35 #[ans a1 a2 a3 a4 k,.iface 273 (.pointer (some (pick a1 a2 a3 a4 j)))] w fun e w'=>e=.returned (.bool (decide (k=j)))/\w.grownBy w' none:=by
 by_cases hz:k=0
 ·subst hz;rw [decide_eq_false (by omega)];refine (ym.isNil _ w).mono ?_;rintro e w' ⟨rfl,rfl⟩;exact⟨rfl,grown_refl _⟩
 ·unfold ans;rw [if_neg hz];by_cases e:k=j
  ·subst e;rw [decide_eq_true rfl];exact ym.isYes _ _ w
  ·rw [decide_eq_false e];refine ym.isNo _ _ _ w ?_;have hk':k=1∨k=2∨k=3∨k=4:=by omega
   have hj':j=1∨j=2∨j=3∨j=4:=by omega
   rcases hk' with rfl | rfl | rfl | rfl <;> rcases hj' with rfl | rfl | rfl | rfl <;> first
    | exact absurd rfl e
    | exact h.t12 | exact h.t13 | exact h.t14 | exact h.t23 | exact h.t24 | exact h.t34
    | exact Two.symm h.t12 | exact Two.symm h.t13 | exact Two.symm h.t14 | exact Two.symm h.t23 | exact Two.symm h.t24 | exact Two.symm h.t34
theorem reason {a1 a2 a3 a4:Addr}(w:World)(h:Errs w a1 a2 a3 a4)(j:Nat)(hj:1<=j/\j<=4) :
  Calls Tryz.prog 36 #[.int .i64 (j:Int)] w fun e w'=>e=.returned (.iface 273 (.pointer (some (pick a1 a2 a3 a4 j))))/\w'=w:=by
 have hj':j=1∨j=2∨j=3∨j=4:=by omega
 rcases hj' with rfl | rfl | rfl | rfl
 ·exact reason1 w h
 ·exact reason2 w h
 ·exact reason3 w h
 ·exact reason4 w h
end yn
namespace yv
open da (digT)
open zr (okM)
open yg (sgB)
open rq (ListE)
def vfC (key:ByteArray)(n:Int)(LL:List (List Int))(d:ByteArray)(sat:Bool)(b m:ByteArray)(O:Option (List (List Int))):Nat :=
 if okM key (sgB d sat b) m=false then 1
 else if digT n LL=[]∨rd.bytes d≠digT n LL then 2
 else if sat=true then (if raB (rd.bytes b) n=false then 3 else if trueB n LL (raL (rd.bytes b) n)=false then 4 else 0)
 else (if O.isSome=false then 3 else if checkB n LL (O.getD [])=false then 4 else 0)
theorem vf_le (key:ByteArray)(n:Int)(LL:List (List Int))(d:ByteArray)(sat:Bool)(b m:ByteArray)(O:Option (List (List Int))):vfC key n LL d sat b m O<=4:=by
 unfold vfC
 repeat' split
 all_goals decide
theorem rp_ex (s:ByteArray):∃ O,RP (rd.bytes s) O:=by
 by_cases q:∃ LL:List (List Int),LL.all cls.okAll=true/\LL.length<=700/\cx.lines LL=rd.bytes s
 ·obtain⟨LL,a,b,c⟩:=q;exact⟨some LL,.inl ⟨LL,rfl,a,b,c⟩⟩
 ·exact⟨none,.inr ⟨rfl,fun M a b c=>q ⟨M,a,b,c⟩⟩⟩
theorem rp_tot {s:List UInt8}{O:Option (List (List Int))}(h:RP s O):tot (O.getD [])<=1048576:=by
 rcases h with ⟨A,rfl,a1,a2,a3⟩ | ⟨rfl,a⟩
 ·have:=rq.tot_ok a1;show tot A<=_;omega
 ·exact Nat.zero_le _
theorem ra_len (s:List UInt8)(n:Int):(raL s n).length<=48:=by
 unfold ra.raL
 split
 ·have:=rd.read_len s;rw [ra.bits_len];exact this
 ·exact Nat.zero_le _
theorem specRead {s:ByteArray}{O:Option (List (List Int))}(hO:RP (rd.bytes s) O)(hs:s.size<=1048576)(w:World):Calls Tryz.prog 45 #[.string s] w fun e w'=>ListE w O e w':=by
 refine (rq.specReadProof s w hs).mono ?_;rintro e w' ⟨P,hP,h⟩;rw [hO.one hP];exact h
theorem implRead {s:ByteArray}{O:Option (List (List Int))}(hO:RP (rd.bytes s) O)(hs:s.size<=1048576)(w:World)(hE:rd.Env w):Calls Tryz.prog 120 #[.string s] w fun e w'=>ListE w O e w':=by
 refine (rq.implReadProof s w hE hs).mono ?_;rintro e w' ⟨P,hP,h⟩;rw [hO.one hP];exact h
end yv
namespace yo
open da (digT)
open zr (okM)
open yb (Box4)
open yg (sgB)
open yv (vfC)
open yn (Errs ans pick)
open sl (grown_drewN)
structure Env (w:World) (a1 a2 a3 a4:Addr):Prop where
 tab:Tab w
 env:rd.Env w
 k:TabK w
 s:TabS w
 errs:Errs w a1 a2 a3 a4
theorem Env.kept {w w':World}{a1 a2 a3 a4:Addr}(h:Env w a1 a2 a3 a4)(g:w.grownBy w' none):Env w' a1 a2 a3 a4:=⟨h.tab.kept g,h.env.kept g,h.k.kept g,h.s.kept g,h.errs.kept g⟩
theorem holdsT (u v:Value)(n:Int)(LL:List (List Int))(A:List Int)(w:World)(hn:tot LL<=1048576)(hA:A.length<=1048576)(hv:Sls w v LL)(hu:Sl w u A) :
  Calls Tryz.prog 249 #[.agg #[u],.agg #[.int .i64 n,v]] w fun e w'=>e=.returned (.bool (trueB n LL A))/\w.grownBy w' none:=by
 have g0:=qT (sl.qA w (.cells #[u] 91) none) (sl.qA _ (.cells #[.int .i64 n,v] 26) none);have C:=qH (tr.implCnfTrue v u n LL A _ hn hA (hv.kept g0) (hu.kept g0 (.inl rfl)));have G0:=qH g0;clear g0;go_enter Tryz.func249,Tryz.ntmps249;go_wp2_with fail;refine (qU C).mono ?_;rintro e w1 ⟨rfl,g1⟩;have G1:=qH (qT (qU G0) g1);clear g1 C G0;go_wp2_with fail;go_ret;exact⟨rfl,qU G1⟩
theorem holdsR (u v:Value)(n:Int)(LL PP:List (List Int))(w:World)(hT:Tab w)(hn:tot LL<=1048576)(hP:tot PP<=1048576)(hv:Sls w v LL)(hu:Sls w u PP) :
  Calls Tryz.prog 258 #[.agg #[u],.agg #[.int .i64 n,v]] w fun e w'=>e=.returned (.bool (checkB n LL PP))/\w.grownBy w' none:=by
 have g0:=qT (sl.qA w (.cells #[u] 93) none) (sl.qA _ (.cells #[.int .i64 n,v] 26) none);have C:=qH (xe.implCheck v u n LL PP _ (hT.kept g0) hn hP (hv.kept g0) (hu.kept g0));have G0:=qH g0;clear g0;go_enter Tryz.func258,Tryz.ntmps258;go_wp2_with fail;refine (qU C).mono ?_;rintro e w1 ⟨rfl,g1⟩;have G1:=qH (qT (qU G0) g1);clear g1 C G0;go_wp2_with fail;go_ret;exact⟨rfl,qU G1⟩
theorem methodT (v : Value) (w : World) : (Go.method 407 91 v "loop.example/g00123/impl.holds").run Tryz.prog w = .ok (249, v) w := by kernel_rfl
theorem methodR (v : Value) (w : World) : (Go.method 407 93 v "loop.example/g00123/impl.holds").run Tryz.prog w = .ok (258, v) w := by kernel_rfl
theorem readT (d b m:ByteArray)(n:Int)(w:World)(hb:b.size<=1048576)(hE:rd.Env w) :
  Calls Tryz.prog 70 #[.agg #[.string d,.bool true,.string b,.string m],.int .i64 n] w fun e w'=>∃ a c,e=.returned (.tuple #[.iface 91 (.agg #[.slice a (raL (rd.bytes b) n).length c]),.bool (raB (rd.bytes b) n)])/\Made w w' (.slice a (raL (rd.bytes b) n).length c) (raL (rd.bytes b) n):=by
 have g0:=sl.qA w (.cells #[.string d,.bool true,.string b,.string m] 30) none;have CA:=qH (ra.implReadAssign b n _ (hE.kept g0) hb);have G0:=qH g0;clear g0 hE hb;generalize raL (rd.bytes b) n=A at *;generalize raB (rd.bytes b) n=ok at *;go_enter Tryz.func70,Tryz.ntmps70;go_wp2_with fail;refine (qU CA).mono ?_;rintro e w1 ⟨r,rfl,m1⟩;obtain⟨ra_,rc,er,_⟩:=sl.Sl.of_own m1.1;subst er;have R1:Hid (Made w w1 (.slice ra_ A.length rc) A):=⟨css.own_mono m1.1 (qU G0).size,grown_trans (qU G0) m1.2⟩;clear m1 CA G0;go_wp2_with fail;go_ret2;exact⟨_,_,rfl,qU R1⟩
theorem readF (d b m:ByteArray)(n:Int)(O:Option (List (List Int)))(w:World)(hO:RP (rd.bytes b) O)(hb:b.size<=1048576)(hE:rd.Env w) :
  Calls Tryz.prog 70 #[.agg #[.string d,.bool false,.string b,.string m],.int .i64 n] w fun e w'=>∃ a c,e=.returned (.tuple #[.iface 93 (.agg #[.slice a (O.getD []).length c]),.bool O.isSome])/\OwnS w.heap.size w'.heap.size w' (.slice a (O.getD []).length c) (O.getD [])/\w.grownBy w' none:=by
 have g0:=sl.qA w (.cells #[.string d,.bool false,.string b,.string m] 30) none;have CP:=qH (yv.implRead hO hb _ (hE.kept g0));have G0:=qH g0;unfold rq.ListE at CP;clear g0 hE hO hb;generalize O.isSome=oq at *;generalize O.getD []=P at *;go_enter Tryz.func70,Tryz.ntmps70;go_wp2_with fail;refine (qU CP).mono ?_;rintro e w1 ⟨r,rfl,o1,g1⟩;obtain⟨ra_,rc,rfl⟩:=o1.len;have R1:=qH (And.intro (o1.sub (qU G0).size (Nat.le_refl _)) (qT (qU G0) g1));clear o1 g1 CP G0;go_wp2_with fail;go_ret2;exact⟨_,_,rfl,qU R1⟩
def VerE (w:World)(a1 a2 a3 a4:Addr)(k:Nat)(e:Ending)(w':World):Prop:=e=.returned (ans a1 a2 a3 a4 k)/\w.grownBy w' none
theorem verify {a1 a2 a3 a4:Addr}(key:ByteArray)(v:Value)(n:Int)(LL:List (List Int))(d:ByteArray)(sat:Bool)(b m:ByteArray)(O:Option (List (List Int)))(w:World)(hk:key.size<=1048576)(hE:Env w a1 a2 a3 a4)(hn:tot LL<=1048576)(hv:Sls w v LL)(hO:RP (rd.bytes b) O)(hd:d.size<=1048576)(hb:b.size<=1048576)(hdb:d.size+b.size<=1048576) :
  Calls Tryz.prog 34 #[.string key,.agg #[.int .i64 n,v],.agg #[.string d,.bool sat,.string b,.string m]] w fun e w'=>VerE w a1 a2 a3 a4 (vfC key n LL d sat b m O) e w':=by
 have g0:=qT (sl.qA w (.cells #[.int .i64 n,v] 26) none) (sl.qA _ (.cells #[.string d,.bool sat,.string b,.string m] 30) none);have F0:=qH ((Box.new 26 w (.int .i64 n) v).kept (sl.qA _ (.cells #[.string d,.bool sat,.string b,.string m] 30) none));have B0:=Box4.new 30 (w.alloc (.cells #[.int .i64 n,v] 26)) (.string d) (.bool sat) (.string b) (.string m);rw [World.size_alloc] at B0;have HB0:=qH B0;have CG:=qH (fun w1=>yg.implSigned d sat b m w1 hd hb);have hsz:(sgB d sat b).size<=2097152:=by rw [yg.sg_size];omega
 have CM:=qH (fun w1 (g:w.grownBy w1 none)=>zr.implMacOk2 key (sgB d sat b) m w1 hk hsz (hE.kept g).k (hE.kept g).s);have CD:=qH (fun w1 (g:w.grownBy w1 none)=>da.implDigest v n LL w1 (hE.kept g).tab (hE.kept g).env.pow (hE.kept g).k (hE.kept g).s hn (hv.kept g));have CT:=qH (fun w1 (g:w.grownBy w1 none)=>readT d b m n w1 hb (hE.kept g).env);have CF:=qH (fun w1 (g:w.grownBy w1 none)=>readF d b m n O w1 hO hb (hE.kept g).env);have hra:=yv.ra_len (rd.bytes b) n;have hro:=yv.rp_tot hO;have HH:=qH (fun A (hA:A.length<=48) u w1 (g:w.grownBy w1 none) (hu:Sl w1 u A)=>holdsT u v n LL A w1 hn (by omega) (hv.kept g) hu)
 have HR:=qH (fun P (hP:tot P<=1048576) u w1 (g:w.grownBy w1 none) (hu:Sls w1 u P)=>holdsR u v n LL P w1 (hE.kept g).tab hn hP (hv.kept g) hu);have HT:=qH hE;have G0:=qH g0;obtain⟨W0,hW0⟩:∃ W0,W0=(w.alloc (.cells #[.int .i64 n,v] 26)).alloc (.cells #[.string d,.bool sat,.string b,.string m] 30):=⟨_,rfl⟩;rw [←hW0] at F0 HB0 G0;have hem:=da.empty_list (digT n LL);have hdq:((⟨(digT n LL).toArray⟩:ByteArray).toList)=digT n LL:=by rw [rd.toList_bytes];rfl
 have hdd:d.toList=rd.bytes d:=rd.toList_bytes d;unfold dec.str at CD;have HI:vfC key n LL d sat b m O=if okM key (sgB d sat b) m=false then 1
  else if digT n LL=[]∨rd.bytes d≠digT n LL then 2
  else if sat=true then (if raB (rd.bytes b) n=false then 3 else if trueB n LL (raL (rd.bytes b) n)=false then 4 else 0)
  else (if O.isSome=false then 3 else if checkB n LL (O.getD [])=false then 4 else 0):=rfl
 generalize vfC key n LL d sat b m O=K at *;generalize okM key (sgB d sat b) m=okm at *;generalize sgB d sat b=sg at *;generalize (⟨(digT n LL).toArray⟩:ByteArray)=D at *;generalize digT n LL=DT at *;generalize raL (rd.bytes b) n=A at *;generalize raB (rd.bytes b) n=okr at *;generalize O.isSome=okp at *;generalize O.getD []=P at *;have HIK:=qH HI;have HEM:=qH hem;have HDQ:=qH hdq;have HDD:=qH hdd;clear g0 hE B0 hO HI hem hdq hdd hsz hdb hd hb;go_enter Tryz.func34,Tryz.ntmps34
 go_upto_region 1 with fail
 rw [←hW0];clear hW0;have GX:=qH (grown_drewN W0 1);have CK:Hid (∀ w',W0.grownBy w' none->w'.cell? ⟨w.heap.size+1,0,none⟩=some (.string d)/\w'.cell? ⟨w.heap.size+1,1,none⟩=some (.bool sat)/\w'.cell? ⟨w.heap.size+1,2,none⟩=some (.string b)/\w'.cell? ⟨w.heap.size+1,3,none⟩=some (.string m)):=fun w' g=>⟨((qU HB0).kept g).c0,((qU HB0).kept g).c1,((qU HB0).kept g).c2,((qU HB0).kept g).c3⟩;have CM':=qH (fun w1 (g:W0.grownBy w1 none)=>qU CM w1 (qT (qU G0) g));obtain⟨k0,k1,k2,k3⟩:=qU CK _ (grown_refl _)
 go_region_held3 (fun w'=>w'.cell? ⟨w.heap.size+1,0,none⟩=some (.string d)/\w'.cell? ⟨w.heap.size+1,1,none⟩=some (.bool sat)/\w'.cell? ⟨w.heap.size+1,2,none⟩=some (.string b)/\w'.cell? ⟨w.heap.size+1,3,none⟩=some (.string m)) (go_keep) (first
  | (go_at_call 27;refine (qU CG _).mono ?_;rintro e w8 ⟨rfl,g8⟩;replace GX:=qH (qT (qU GX) g8);obtain⟨k0,k1,k2,k3⟩:=qU CK _ (qU GX);clear g8)
  | (go_at_call 68;refine (qU CM' _ (qU GX)).mono ?_;rintro e w9 ⟨rfl,g9⟩;replace GX:=qH (qT (qU GX) g9);obtain⟨k0,k1,k2,k3⟩:=qU CK _ (qU GX);clear g9))
 all_goals
  have G1:=qH (qT (qU G0) (qU GX));have F1:=qH ((qU F0).kept (qU GX));have B1:=qH ((qU HB0).kept (qU GX));have E1:=qH ((qU HT).kept (qU G1));clear GX CK CM' CM CG G0 F0 HB0;clear k0 k1 k2 k3;cases okm
  ·have HV:Hid (K=1):=(qU HIK).trans (if_pos rfl);clear HIK;go_wp2_with fail;refine (yn.refuse1 _ (qU E1).errs).mono ?_;rintro e wz ⟨rfl,hw⟩;have hw':=hw.symm;clear hw;subst hw';go_wp2_with fail;go_ret;exact⟨by rw [qU HV];rfl,qU G1⟩
  have x0:=(qU F1).c0;have x1:=(qU F1).c1;go_wp2_with fail;refine (qU CD _ (qU G1)).mono ?_;rintro e w2 ⟨rfl,g2⟩;have G2:=qH (qT (qU G1) g2);have F2:=qH ((qU F1).kept g2);have B2:=qH ((qU B1).kept g2);have E2:=qH ((qU HT).kept (qU G2));clear g2 G1 F1 B1 E1 CD x0 x1;have hem:=qU HEM;cases hE:DT.isEmpty
  rotate_left
  ·rw [hE] at hem;have HV:Hid (K=2):=(qU HIK).trans ((if_neg (by decide)).trans (if_pos (.inl (List.isEmpty_iff.1 hE))));clear HIK hE;go_wp2_with fail;refine (yn.refuse2 _ (qU E2).errs).mono ?_;rintro e wz ⟨rfl,hw⟩;have hw':=hw.symm;clear hw;subst hw';go_wp2_with fail;go_ret;exact⟨by rw [qU HV];rfl,qU G2⟩
  rw [hE] at hem;have y0:=(qU B2).c0;by_cases hq:rd.bytes d=DT
  rotate_left
  ·have hq':(d.toList == D.toList)=false:=by rw [qU HDQ,qU HDD,beq_eq_false_iff_ne];exact hq
   have HV:Hid (K=2):=(qU HIK).trans ((if_neg (by decide)).trans (if_pos (.inr hq)));clear HIK hE hq;go_wp2_with fail;refine (yn.refuse2 _ (qU E2).errs).mono ?_;rintro e wz ⟨rfl,hw⟩;have hw':=hw.symm;clear hw;subst hw';go_wp2_with fail;go_ret;exact⟨by rw [qU HV];rfl,qU G2⟩
  have hq':(d.toList == D.toList)=true:=by rw [qU HDQ,qU HDD,hq];exact beq_self_eq_true _
  have HK2:Hid (K=if sat=true then (if okr=false then 3 else if trueB n LL A=false then 4 else 0) else (if okp=false then 3 else if checkB n LL P=false then 4 else 0)):=(qU HIK).trans ((if_neg (by decide)).trans (if_neg (fun h=>by rcases h with h | h;rw [h] at hE;cases hE;exact h hq)));clear HIK hE hq;have y1:=(qU B2).c1;have y2:=(qU B2).c2;have y3:=(qU B2).c3;have x0:=(qU F2).c0;cases sat
  ·have HK3:Hid (K=if okp=false then 3 else if checkB n LL P=false then 4 else 0):=(qU HK2).trans (if_neg (by decide));clear HK2 CT HH;go_wp2_with fail;refine (qU CF _ (qU G2)).mono ?_;rintro e w3 ⟨a,c,rfl,o3,g3⟩;have G3:=qH (qT (qU G2) g3);have F3:=qH ((qU F2).kept g3);have E3:=qH ((qU HT).kept (qU G3));have O3:=qH o3;clear g3 o3 G2 F2 B2 E2 CF x0 y0 y1 y2 y3 hem hq';cases okp
   ·have HV:Hid (K=3):=(qU HK3).trans (if_pos rfl);clear HK3;go_wp2_with fail;refine (yn.refuse3 _ (qU E3).errs).mono ?_;rintro e wz ⟨rfl,hw⟩;have hw':=hw.symm;clear hw;subst hw';go_wp2_with fail;go_ret;exact⟨by rw [qU HV];rfl,qU G3⟩
   have x0:=(qU F3).c0;have x1:=(qU F3).c1;have CH:=qH (qU HR P hro _ w3 (qU G3) (qU O3).sls);have mH:=methodR;have HK4:Hid (K=if checkB n LL P=false then 4 else 0):=(qU HK3).trans (if_neg (by decide));clear HK3 HR O3;generalize checkB n LL P=okc at *;go_wp2_with fail;refine (qU CH).mono ?_;rintro e w4 ⟨rfl,g4⟩;have G4:=qH (qT (qU G3) g4);have E4:=qH ((qU HT).kept (qU G4));clear g4 G3 F3 E3 CH mH x0 x1;cases okc
   ·have HV:Hid (K=4):=(qU HK4).trans (if_pos rfl);clear HK4;go_wp2_with fail;refine (yn.refuse4 _ (qU E4).errs).mono ?_;rintro e wz ⟨rfl,hw⟩;have hw':=hw.symm;clear hw;subst hw';go_wp2_with fail;go_ret;exact⟨by rw [qU HV];rfl,qU G4⟩
   have HV:Hid (K=0):=(qU HK4).trans (if_neg (by decide));clear HK4;go_wp2_with fail;go_ret;exact⟨by rw [qU HV];rfl,qU G4⟩
  ·have HK3:Hid (K=if okr=false then 3 else if trueB n LL A=false then 4 else 0):=(qU HK2).trans (if_pos rfl);clear HK2 CF HR;go_wp2_with fail;refine (qU CT _ (qU G2)).mono ?_;rintro e w3 ⟨a,c,rfl,m3⟩;have G3:=qH (qT (qU G2) m3.2);have F3:=qH ((qU F2).kept m3.2);have E3:=qH ((qU HT).kept (qU G3));have O3:=qH (sl.Sl.of_own m3.1);clear m3 G2 F2 B2 E2 CT x0 y0 y1 y2 y3 hem hq';cases okr
   ·have HV:Hid (K=3):=(qU HK3).trans (if_pos rfl);clear HK3;go_wp2_with fail;refine (yn.refuse3 _ (qU E3).errs).mono ?_;rintro e wz ⟨rfl,hw⟩;have hw':=hw.symm;clear hw;subst hw';go_wp2_with fail;go_ret;exact⟨by rw [qU HV];rfl,qU G3⟩
   have x0:=(qU F3).c0;have x1:=(qU F3).c1;have CH:=qH (qU HH A hra _ w3 (qU G3) (qU O3));have mH:=methodT;have HK4:Hid (K=if trueB n LL A=false then 4 else 0):=(qU HK3).trans (if_neg (by decide));clear HK3 HH O3;generalize trueB n LL A=okc at *;go_wp2_with fail;refine (qU CH).mono ?_;rintro e w4 ⟨rfl,g4⟩;have G4:=qH (qT (qU G3) g4);have E4:=qH ((qU HT).kept (qU G4));clear g4 G3 F3 E3 CH mH x0 x1;cases okc
   ·have HV:Hid (K=4):=(qU HK4).trans (if_pos rfl);clear HK4;go_wp2_with fail;refine (yn.refuse4 _ (qU E4).errs).mono ?_;rintro e wz ⟨rfl,hw⟩;have hw':=hw.symm;clear hw;subst hw';go_wp2_with fail;go_ret;exact⟨by rw [qU HV];rfl,qU G4⟩
   have HV:Hid (K=0):=(qU HK4).trans (if_neg (by decide));clear HK4;go_wp2_with fail;go_ret;exact⟨by rw [qU HV];rfl,qU G4⟩
theorem implVerify {a1 a2 a3 a4:Addr}(key:ByteArray)(v:Value)(n:Int)(LL:List (List Int))(d:ByteArray)(sat:Bool)(b m:ByteArray)(O:Option (List (List Int)))(w:World)(hk:key.size<=1048576)(hE:Env w a1 a2 a3 a4)(hn:tot LL<=1048576)(hv:Sls w v LL)(hO:RP (rd.bytes b) O)(hd:d.size<=1048576)(hb:b.size<=1048576)(hdb:d.size+b.size<=1048576) :
  Calls Tryz.prog 10 #[.string key,.agg #[.int .i64 n,v],.agg #[.string d,.bool sat,.string b,.string m]] w fun e w'=>e=.returned (.int .i64 (vfC key n LL d sat b m O:Nat))/\w.grownBy w' none:=by
 have g0:=qT (sl.qA w (.cells #[.int .i64 n,v] 26) none) (sl.qA _ (.cells #[.string d,.bool sat,.string b,.string m] 30) none);have CV:=qH (verify key v n LL d sat b m O _ hk (hE.kept g0) hn (hv.kept g0) hO hd hb hdb);have hle:=yv.vf_le key n LL d sat b m O;have G0:=qH g0;have HT:=qH hE;generalize vfC key n LL d sat b m O=K at *;have CI:=qH (fun j (hj:1<=j/\j<=4) w1 (g:w.grownBy w1 none)=>yn.asked w1 (hE.kept g).errs K j hle hj);have CR:=qH (fun j (hj:1<=j/\j<=4) w1 (g:w.grownBy w1 none)=>yn.reason w1 (hE.kept g).errs j hj);clear g0 hE hv hO hd hb hdb hk hn
 unfold VerE at CV;generalize ans a1 a2 a3 a4 K=X at *;go_enter Tryz.func10,Tryz.ntmps10;go_wp2_with fail;refine (qU CV).mono ?_;rintro e w1 ⟨rfl,g1⟩;have G1:=qH (qT (qU G0) g1);clear g1 CV G0;go_wp2_with fail;go_loopw [8,18,19,20] (fun i _ _ _ wr=>∃ j:Nat,(1<=j/\j<=5)/\i=.int .i64 j/\(K=0∨j<=K)/\Hid (w.grownBy wr none)) (fun i _ _ _ _=>5 - (intOf i).toNat)
 case atStart=>exact⟨1,by decide,rfl,by omega,G1⟩
 case round =>
  obtain⟨j,hj,rfl,hK,hg⟩:=hrel;clear G1;by_cases h5:j<=4
  ·have h5':(j:Int)<=4:=by omega
   have C1:=qH (qU CR j ⟨hj.1,h5⟩ wr (qU hg));have C2:=qH (qU CI j ⟨hj.1,h5⟩);generalize pick a1 a2 a3 a4 j=Y at *;go_wp2_with fail;refine (qU C1).mono ?_;rintro e wz ⟨rfl,hw⟩;have hw':=hw.symm;clear hw;subst hw';go_wp2_with fail;refine (qU C2 wr (qU hg)).mono ?_;rintro e w2 ⟨rfl,g2⟩;have G2:=qH (qT (qU hg) g2);clear g2 C1 C2 hg;by_cases hq:K=j
   ·rw [decide_eq_true hq];go_wp2_with fail;go_ret;exact⟨by rw [hq];rfl,qU G2⟩
   ·rw [decide_eq_false hq];go_wp2_with fail;go_roundw
    case rel=>exact⟨j+1,by omega,by go_num,by omega,G2⟩
    case measure=>simp [intOf];omega
  ·have h5':¬ (j:Int)<=4:=by omega
   have HK:Hid (K=0):=by show K=0;omega
   clear hK hj;go_wp2_with fail;go_ret;exact⟨by rw [qU HK];rfl,qU hg⟩
end yo
namespace yh
def Ans (w w':World)(x:Value)(P:List Int ⊕ List (List Int)):Prop:=match P with
 | .inl A=>∃ r,x=.iface 91 (.agg #[r])/\Made w w' r A
 | .inr R=>∃ r,x=.iface 93 (.agg #[r])/\OwnS w.heap.size w'.heap.size w' r R/\w.grownBy w' none
def FindE (w:World)(n:Int)(LL:List (List Int))(e:Ending)(w':World):Prop:=∃ x,e=.returned (.tuple #[x,.bool (fnd n LL).2])/\Ans w w' x (fnd n LL).1
theorem findAnswer (v:Value)(n:Int)(LL:List (List Int))(w:World)(hT:Tab w)(hn:tot LL<=1048576)(hv:Sls w v LL) :
  Calls Tryz.prog 24 #[.agg #[.int .i64 n,v]] w fun e w'=>FindE w n LL e w':=by
 have g0:=sl.qA w (.cells #[.int .i64 n,v] 26) none;have F0:=qH (Box.new 26 w (.int .i64 n) v);have CS:=qH (ks.implSolve v n LL _ (hT.kept g0) hn (hv.kept g0));have CR:=qH (fun w1 (g:w.grownBy w1 none)=>xp.implRefute v n LL w1 (hT.kept g) hn (hv.kept g));have G0:=qH g0;have x0:=(qU F0).c0;have x1:=(qU F0).c1;clear g0 hT hv hn;unfold lq.FromE at CS;unfold xw.WalkE at CR;cases hs:solveL n LL [] with
 | some A =>
  rw [hs] at CS;have FE:fnd n LL=(.inl A,true):=by unfold fnd;rw [hs]
  have HF:Hid (∀ e w',FindE w n LL e w' = ∃ x,e=.returned (.tuple #[x,.bool true])/\Ans w w' x (.inl A)):=fun e w'=>by unfold FindE;rw [FE]
  clear hs CR FE;go_enter Tryz.func24,Tryz.ntmps24;go_wp2_with fail;refine (qU CS).mono ?_;rintro e w1 ⟨r,rfl,m1⟩;obtain⟨ra,rc,er,_⟩:=sl.Sl.of_own m1.1;subst er;have M1:=qH m1;clear m1 CS x0 x1;simp only [Option.isSome_some];go_wp2_with fail;go_ret2;refine (qU HF _ _).symm ▸ ⟨_,rfl,_,rfl,css.own_mono (qU M1).1 (qU G0).size,grown_trans (qU G0) (qU M1).2⟩
 | none =>
  rw [hs] at CS;have FE:fnd n LL=(.inr (refL n LL).1,(refL n LL).2):=by unfold fnd;rw [hs]
  have HF:Hid (∀ e w',FindE w n LL e w' = ∃ x,e=.returned (.tuple #[x,.bool (refL n LL).2])/\Ans w w' x (.inr (refL n LL).1)):=fun e w'=>by unfold FindE;rw [FE]
  change Hid (∀ w1,w.grownBy w1 none->Calls Tryz.prog 56 #[.agg #[.int .i64 n,v]] w1 fun e w'=>∃ r,e=.returned (.tuple #[r,.bool (refL n LL).2])/\OwnS w1.heap.size w'.heap.size w' r (refL n LL).1/\w1.grownBy w' none) at CR
  generalize refL n LL=R at *;obtain⟨P,b⟩:=R;clear hs FE;go_enter Tryz.func24,Tryz.ntmps24;go_wp2_with fail;refine (qU CS).mono ?_;rintro e w1 ⟨r,rfl,m1⟩;obtain⟨ra,rc,er,_⟩:=sl.Sl.of_own m1.1;subst er;have G1:=qH (qT (qU G0) m1.2);have F1:=qH ((qU F0).kept m1.2);clear m1 CS x0 x1 F0;have x0:=(qU F1).c0;have x1:=(qU F1).c1;simp only [Option.isSome_none];go_wp2_with fail;refine (qU CR w1 (qU G1)).mono ?_;rintro e w2 ⟨r2,rfl,o2,g2⟩;obtain⟨pa,pc,rfl⟩:=o2.len;have O2:=qH o2;have G2:=qH (qT (qU G1) g2);clear o2 g2 CR x0 x1;go_wp2_with fail;go_ret2;refine (qU HF _ _).symm ▸ ⟨_,rfl,_,rfl,(qU O2).sub (qU G1).size (Nat.le_refl _),qU G2⟩
theorem assertT (xT:TypeId)(r:Value)(w:World):(Instr.typeAssert (.iface 91 (.agg #[r])) xT 91 true).run Tryz.prog w=.ok (.tuple #[.agg #[r],.bool true]) w:=by
 simp [Instr.typeAssert,run_underlying Tryz.underlying91,go_sem,Result.andThen]
theorem assertR (xT:TypeId)(r:Value)(w:World):(Instr.typeAssert (.iface 93 (.agg #[r])) xT 93 true).run Tryz.prog w=.ok (.tuple #[.agg #[r],.bool true]) w:=by
 simp [Instr.typeAssert,run_underlying Tryz.underlying93,go_sem,Result.andThen]
theorem assertN (xT:TypeId)(r:Value)(w:World):(Instr.typeAssert (.iface 93 (.agg #[r])) xT 91 true).run Tryz.prog w=.ok (.tuple #[.agg #[.slice none 0 0],.bool false]) w:=by
 simp [Instr.typeAssert,run_underlying Tryz.underlying91,go_sem,Result.andThen]
theorem isSatT (r:Value)(w:World):Calls Tryz.prog 25 #[.iface 91 (.agg #[r])] w fun e w'=>e=.returned (.bool true)/\w'=w:=by
 have a1:=fun xT w=>assertT xT r w;go_enter Tryz.func25,Tryz.ntmps25;go_wp2;go_ret;exact⟨rfl,rfl⟩
theorem isSatF (r:Value)(w:World):Calls Tryz.prog 25 #[.iface 93 (.agg #[r])] w fun e w'=>e=.returned (.bool false)/\w'=w:=by
 have a1:=fun xT w=>assertR xT r w;have a2:=fun xT w=>assertN xT r w;go_enter Tryz.func25,Tryz.ntmps25;go_wp2;go_ret;exact⟨rfl,rfl⟩
theorem methodT (v : Value) (w : World) : (Go.method 407 91 v "loop.example/g00123/impl.body").run Tryz.prog w = .ok (248, v) w := by kernel_rfl
theorem methodR (v : Value) (w : World) : (Go.method 407 93 v "loop.example/g00123/impl.body").run Tryz.prog w = .ok (257, v) w := by kernel_rfl
theorem bodyT (r:Value)(A:List Int)(w:World)(hP:Pow w)(hL:A.length<=1048576)(hr:Sl w r A):Calls Tryz.prog 248 #[.agg #[r]] w fun e w'=>e=.returned (dec.str (asText A))/\w.grownBy w' none:=by
 have g0:=sl.qA w (.cells #[r] 91) none;have C:=qH (as_.implAssignText r A _ (hP.kept g0) hL (hr.kept g0 (.inl rfl)));have G0:=qH g0;clear g0;unfold dec.str at *;go_enter Tryz.func248,Tryz.ntmps248;go_wp2_with fail;refine (qU C).mono ?_;rintro e w1 ⟨rfl,g1⟩;go_wp2_with fail;go_ret;exact⟨rfl,qT (qU G0) g1⟩
theorem bodyR (r:Value)(R:List (List Int))(w:World)(hP:Pow w)(hL:tot R<=1048576)(hr:Sls w r R):Calls Tryz.prog 257 #[.agg #[r]] w fun e w'=>e=.returned (dec.str (prf R))/\w.grownBy w' none:=by
 have g0:=sl.qA w (.cells #[r] 93) none;have C:=qH (pt.implProofText r R _ (hP.kept g0) hL (hr.kept g0));have G0:=qH g0;clear g0;unfold dec.str at *;go_enter Tryz.func257,Tryz.ntmps257;go_wp2_with fail;refine (qU C).mono ?_;rintro e w1 ⟨rfl,g1⟩;go_wp2_with fail;go_ret;exact⟨rfl,qT (qU G0) g1⟩
end yh
namespace yi
open da (digT)
open yb (Box4 CertE)
open yg (sgB)
open yh (fnd)
structure Tabs (w:World):Prop where
 tab:Tab w
 pow:Pow w
 k:TabK w
 s:TabS w
theorem Tabs.kept {w w':World}(h:Tabs w)(g:w.grownBy w' none):Tabs w':=⟨h.tab.kept g,h.pow.kept g,h.k.kept g,h.s.kept g⟩
theorem fnd_bd (n:Int)(LL:List (List Int)):match (fnd n LL).1 with
 | .inl A=>A.length<=24
 | .inr R=>tot R<=34300:=by
 have h1:=ks.solve_len n LL [];have h2:=xp.wlk_tot n LL;unfold yh.fnd;cases hs:solveL n LL [] with
 | some A=>rw [hs] at h1;exact h1
 | none=>exact h2
theorem implIssue (key:ByteArray)(v:Value)(n:Int)(LL:List (List Int))(w:World)(hk:key.size<=1048576)(hT:Tabs w)(hn:tot LL<=1048576)(hv:Sls w v LL) :
  Calls Tryz.prog 8 #[.string key,.agg #[.int .i64 n,v]] w fun e w'=>CertE w (issO key n LL) e w':=by
 have g0:=qT (sl.qA w (.cells #[.int .i64 n,v] 26) none) (sl.qA _ (.cells #[.string ⟨#[]⟩,.bool false,.string ⟨#[]⟩,.string ⟨#[]⟩] 30) none);have F0:=qH ((Box.new 26 w (.int .i64 n) v).kept (sl.qA _ (.cells #[.string ⟨#[]⟩,.bool false,.string ⟨#[]⟩,.string ⟨#[]⟩] 30) none));have B0:=Box4.new 30 (w.alloc (.cells #[.int .i64 n,v] 26)) (.string ⟨#[]⟩) (.bool false) (.string ⟨#[]⟩) (.string ⟨#[]⟩);rw [World.size_alloc] at B0;have HB0:=qH B0;have CD:=qH (fun w1 (g:w.grownBy w1 none)=>da.implDigest v n LL w1 (hT.kept g).tab (hT.kept g).pow (hT.kept g).k (hT.kept g).s hn (hv.kept g))
 have CF:=qH (fun w1 (g:w.grownBy w1 none)=>yh.findAnswer v n LL w1 (hT.kept g).tab hn (hv.kept g));have G0:=qH g0;obtain⟨W0,hW0⟩:∃ W0,W0=(w.alloc (.cells #[.int .i64 n,v] 26)).alloc (.cells #[.string ⟨#[]⟩,.bool false,.string ⟨#[]⟩,.string ⟨#[]⟩] 30):=⟨_,rfl⟩;rw [←hW0] at F0 HB0 G0;have HT:=qH hT;have CB:=qH (fnd_bd n LL);have hds:=dig_size n LL;have hem:=da.empty_list (digT n LL);unfold dec.str at CD
 change Hid (∀ w1,w.grownBy w1 none->Calls Tryz.prog 11 #[.agg #[.int .i64 n,v]] w1 fun e w'=>e=.returned (.string (digB n LL))/\w1.grownBy w' none) at CD
 change ((digB n LL).toList == [])=_ at hem
 have HI:issO key n LL=if digT n LL=[]∨64<key.size∨(fnd n LL).2=false then none
  else some (digB n LL,satB (fnd n LL).1,bodyB (fnd n LL).1,markB key (digB n LL) (satB (fnd n LL).1) (bodyB (fnd n LL).1)):=rfl
 unfold yh.FindE at CF;generalize issO key n LL=O at *;generalize digB n LL=D at *;generalize hdt:digT n LL=DT at *;generalize fnd n LL=FN at *;obtain⟨P,ok⟩:=FN;have x0:=(qU F0).c0;have x1:=(qU F0).c1;clear g0 hT B0 hdt;go_enter Tryz.func8,Tryz.ntmps8
 go_upto_region 1 with fail
 rw [←hW0];clear hW0;go_wp2_with fail;refine (qU CD W0 (qU G0)).mono ?_;rintro e w1 ⟨rfl,g1⟩;have G1:=qH (qT (qU G0) g1);have F1:=qH ((qU F0).kept g1);have B1:=qH ((qU HB0).kept g1);clear g1 G0 F0 HB0 x0 x1 CD;have HO:=qH HI;clear HI;cases hE:DT.isEmpty
 ·rw [hE] at hem;have hne:DT≠[]:=fun e=>by rw [e] at hE;cases hE
  have NE:=qH hne;clear hne hE;by_cases h64:64<key.size
  ·have h64':(64:Int)<(key.size:Int):=by omega
   have EO:Hid (O=none):=(qU HO).trans (if_pos (.inr (.inl h64)));have B5:=B1;have G5:=G1;have p0:=(qU B5).c0;have p1:=(qU B5).c1;have p2:=(qU B5).c2;have p3:=(qU B5).c3;have f0:=(qU B5).f 0;have f1:=(qU B5).f 1;have f2:=(qU B5).f 2;have f3:=(qU B5).f 3;clear h64 HO NE CF CB B1 G1 F1;go_wp2_with fail
   (try simp only [Exit.inBlock,Exit.then])
   exact bodyPost_ret (yb.ret_box2 rfl rfl ((qU B5).setA _ _ _ _)) rfl (by rw [qU EO];exact⟨rfl,yb.grown_setA (qU G5) (Nat.le_succ _)⟩)
  ·have h64':¬ (64:Int)<(key.size:Int):=by omega
   have H64:=qH h64;have x0:=(qU F1).c0;have x1:=(qU F1).c1;clear h64;go_wp2_with fail;refine (qU CF w1 (qU G1)).mono ?_;rintro e w2 ⟨x,rfl,ans⟩;clear x0 x1 CF F1;cases ok
   ·have EO:Hid (O=none):=(qU HO).trans (if_pos (.inr (.inr rfl)));have g2:w1.grownBy w2 none:=by
     cases P with
     | inl A=>obtain⟨r,_,m⟩:=ans;exact m.2
     | inr R=>obtain⟨r,_,_,g⟩:=ans;exact g
    have G5:=qH (qT (qU G1) g2);have B5:=qH ((qU B1).kept g2);clear g2 ans;have p0:=(qU B5).c0;have p1:=(qU B5).c1;have p2:=(qU B5).c2;have p3:=(qU B5).c3;have f0:=(qU B5).f 0;have f1:=(qU B5).f 1;have f2:=(qU B5).f 2;have f3:=(qU B5).f 3;clear H64 HO NE CB B1 G1;go_wp2_with fail
    (try simp only [Exit.inBlock,Exit.then])
    exact bodyPost_ret (yb.ret_box2 rfl rfl ((qU B5).setA _ _ _ _)) rfl (by rw [qU EO];exact⟨rfl,yb.grown_setA (qU G5) (Nat.le_succ _)⟩)
   ·have EO:=qH ((qU HO).trans (if_neg (fun h=>by rcases h with h | h | h;exact qU NE h;exact qU H64 h;cases h)));cases P with
    | inl A =>
     obtain⟨r,rfl,m2⟩:=ans;have hA:A.length<=24:=qU CB;obtain⟨ra,rc,er,hr⟩:=sl.Sl.of_own m2.1;subst er;have G2:=qH (qT (qU G1) m2.2);have B2:=qH ((qU B1).kept m2.2);have CI:=qH (yh.isSatT (.slice ra A.length rc));have CY:=qH (yh.bodyT (.slice ra A.length rc) A w2 ((qU HT).kept (qU G2)).pow (by omega) (sl.Sl.of_own m2.1));clear m2 hr HO NE H64 CB B1 G1;go_wp2_with fail;refine (qU CI _).mono ?_;rintro e w3 ⟨rfl,hw⟩;have hw':=hw.symm;clear hw;subst hw';have mB:=yh.methodT;go_wp2_with fail;refine (qU CY).mono ?_;rintro e w3 ⟨rfl,g3⟩;unfold dec.str;have G3:=qH (qT (qU G2) g3)
     have B3:=qH ((qU B2).kept g3);clear g3 G2 B2 CI mB;have hbs:(⟨(asText A).toArray⟩:ByteArray).size<=400000:=body_size (.inl A);have EO':Hid (O=some (D,true,⟨(asText A).toArray⟩,markB key D true ⟨(asText A).toArray⟩)):=qU EO;generalize (⟨(asText A).toArray⟩:ByteArray)=bb at *;have CG:=qH (fun w1=>yg.implSigned D true bb ⟨#[]⟩ w1 (by omega) (by omega));have hsz:(sgB D true bb).size<=1048576:=by rw [yg.sg_size];omega
     have CM:=qH (fun w1 (g:w.grownBy w1 none)=>zr.implMac key (sgB D true bb) w1 hk hsz ((qU HT).kept g).k ((qU HT).kept g).s);unfold dec.str at CM
     change Hid (∀ w1,w.grownBy w1 none->Calls Tryz.prog 26 #[.string key,.string (sgB D true bb)] w1 fun e w'=>e=.returned (.string (markB key D true bb))/\w1.grownBy w' none) at CM
     generalize markB key D true bb=mk at *;generalize sgB D true bb=sg at *;clear EO hsz hbs hds hem CY;obtain⟨W3,hW3⟩:∃ W3,W3=w3.alloc (.cells #[.string D,.bool true,.string bb,.string ⟨#[]⟩] 30):=⟨_,rfl⟩;have ga:w3.grownBy W3 none:=by rw [hW3];exact sl.qA w3 _ none
     have BC:Hid (Box4 30 W3 w3.heap.size (.string D) (.bool true) (.string bb) (.string ⟨#[]⟩)):=by rw [hW3];exact Box4.new 30 w3 _ _ _ _
     have GA:=qH (qT (qU G3) ga);have BA:=qH ((qU B3).kept ga);have hne:w3.heap.size≠w.heap.size+1:=fun e=>by have:=(qU B3).lt;omega
     have h1:w.heap.size<=w3.heap.size:=(qU G3).size;clear ga G3 B3
     go_upto_region 8 with fail
     rw [←hW3];clear hW3;have q0:=(qU BC).c0;have q1:=(qU BC).c1;have q2:=(qU BC).c2;have q3:=(qU BC).c3;go_wp2_with fail;refine (qU CG _).mono ?_;rintro e w4 ⟨rfl,g4⟩;have G4:=qH (qT (qU GA) g4);have B4:=qH ((qU BA).kept g4);have BD:=qH ((qU BC).kept g4);clear g4 GA BA BC CG q0 q1 q2 q3;go_wp2_with fail;refine (qU CM w4 (qU G4)).mono ?_;rintro e w5 ⟨rfl,g5⟩;have G5:=qH (qT (qU G4) g5);have B5:=qH ((qU B4).kept g5);have BE:=qH ((qU BD).kept g5);clear g5 G4 B4 BD CM;have q3:=(qU BE).c3;have qf:=(qU BE).f 3;obtain⟨W6,hW6⟩:∃ W6,W6=w5.setCell ⟨w3.heap.size,3,none⟩ (.string mk):=⟨_,rfl⟩
     have BF:Hid (Box4 30 W6 w3.heap.size (.string D) (.bool true) (.string bb) (.string mk)):=by rw [hW6];exact (qU BE).set3 _
     have B6:Hid (Box4 30 W6 (w.heap.size+1) (.string ⟨#[]⟩) (.bool false) (.string ⟨#[]⟩) (.string ⟨#[]⟩)):=by rw [hW6];exact (qU B5).setO hne
     have G6:Hid (w.grownBy W6 none):=by rw [hW6];exact yb.grown_set (qU G5) h1
     clear G5 B5 BE
     go_upto_region 9 with fail
     rw [←hW6];clear hW6 q3 qf;have q0:=(qU BF).c0;have q1:=(qU BF).c1;have q2:=(qU BF).c2;have q3:=(qU BF).c3;have p0:=(qU B6).c0;have p1:=(qU B6).c1;have p2:=(qU B6).c2;have p3:=(qU B6).c3;have f0:=(qU B6).f 0;have f1:=(qU B6).f 1;have f2:=(qU B6).f 2;have f3:=(qU B6).f 3;go_wp2_with fail
     (try simp only [Exit.inBlock,Exit.then])
     exact bodyPost_ret (yb.ret_box2 rfl rfl ((qU B6).setA _ _ _ _)) rfl (by rw [qU EO'];exact⟨rfl,yb.grown_setA (qU G6) (Nat.le_succ _)⟩)
    | inr R =>
     obtain⟨r,rfl,o2,g2⟩:=ans;have hR:tot R<=34300:=qU CB;obtain⟨ra,rc,rfl⟩:=o2.len;have G2:=qH (qT (qU G1) g2);have B2:=qH ((qU B1).kept g2);have CI:=qH (yh.isSatF (.slice ra R.length rc));have CY:=qH (yh.bodyR (.slice ra R.length rc) R w2 ((qU HT).kept (qU G2)).pow (by omega) o2.sls);clear o2 g2 HO NE H64 CB B1 G1;go_wp2_with fail;refine (qU CI _).mono ?_;rintro e w3 ⟨rfl,hw⟩;have hw':=hw.symm;clear hw;subst hw';have mB:=yh.methodR;go_wp2_with fail;refine (qU CY).mono ?_;rintro e w3 ⟨rfl,g3⟩;unfold dec.str;have G3:=qH (qT (qU G2) g3);have B3:=qH ((qU B2).kept g3)
     clear g3 G2 B2 CI mB;have hbs:(⟨(prf R).toArray⟩:ByteArray).size<=400000:=body_size (.inr R);have EO':Hid (O=some (D,false,⟨(prf R).toArray⟩,markB key D false ⟨(prf R).toArray⟩)):=qU EO;generalize (⟨(prf R).toArray⟩:ByteArray)=bb at *;have CG:=qH (fun w1=>yg.implSigned D false bb ⟨#[]⟩ w1 (by omega) (by omega));have hsz:(sgB D false bb).size<=1048576:=by rw [yg.sg_size];omega
     have CM:=qH (fun w1 (g:w.grownBy w1 none)=>zr.implMac key (sgB D false bb) w1 hk hsz ((qU HT).kept g).k ((qU HT).kept g).s);unfold dec.str at CM
     change Hid (∀ w1,w.grownBy w1 none->Calls Tryz.prog 26 #[.string key,.string (sgB D false bb)] w1 fun e w'=>e=.returned (.string (markB key D false bb))/\w1.grownBy w' none) at CM
     generalize markB key D false bb=mk at *;generalize sgB D false bb=sg at *;clear EO hsz hbs hds hem CY;obtain⟨W3,hW3⟩:∃ W3,W3=w3.alloc (.cells #[.string D,.bool false,.string bb,.string ⟨#[]⟩] 30):=⟨_,rfl⟩;have ga:w3.grownBy W3 none:=by rw [hW3];exact sl.qA w3 _ none
     have BC:Hid (Box4 30 W3 w3.heap.size (.string D) (.bool false) (.string bb) (.string ⟨#[]⟩)):=by rw [hW3];exact Box4.new 30 w3 _ _ _ _
     have GA:=qH (qT (qU G3) ga);have BA:=qH ((qU B3).kept ga);have hne:w3.heap.size≠w.heap.size+1:=fun e=>by have:=(qU B3).lt;omega
     have h1:w.heap.size<=w3.heap.size:=(qU G3).size;clear ga G3 B3
     go_upto_region 8 with fail
     rw [←hW3];clear hW3;have q0:=(qU BC).c0;have q1:=(qU BC).c1;have q2:=(qU BC).c2;have q3:=(qU BC).c3;go_wp2_with fail;refine (qU CG _).mono ?_;rintro e w4 ⟨rfl,g4⟩;have G4:=qH (qT (qU GA) g4);have B4:=qH ((qU BA).kept g4);have BD:=qH ((qU BC).kept g4);clear g4 GA BA BC CG q0 q1 q2 q3;go_wp2_with fail;refine (qU CM w4 (qU G4)).mono ?_;rintro e w5 ⟨rfl,g5⟩;have G5:=qH (qT (qU G4) g5);have B5:=qH ((qU B4).kept g5);have BE:=qH ((qU BD).kept g5);clear g5 G4 B4 BD CM;have q3:=(qU BE).c3;have qf:=(qU BE).f 3;obtain⟨W6,hW6⟩:∃ W6,W6=w5.setCell ⟨w3.heap.size,3,none⟩ (.string mk):=⟨_,rfl⟩
     have BF:Hid (Box4 30 W6 w3.heap.size (.string D) (.bool false) (.string bb) (.string mk)):=by rw [hW6];exact (qU BE).set3 _
     have B6:Hid (Box4 30 W6 (w.heap.size+1) (.string ⟨#[]⟩) (.bool false) (.string ⟨#[]⟩) (.string ⟨#[]⟩)):=by rw [hW6];exact (qU B5).setO hne
     have G6:Hid (w.grownBy W6 none):=by rw [hW6];exact yb.grown_set (qU G5) h1
     clear G5 B5 BE
     go_upto_region 9 with fail
     rw [←hW6];clear hW6 q3 qf;have q0:=(qU BF).c0;have q1:=(qU BF).c1;have q2:=(qU BF).c2;have q3:=(qU BF).c3;have p0:=(qU B6).c0;have p1:=(qU B6).c1;have p2:=(qU B6).c2;have p3:=(qU B6).c3;have f0:=(qU B6).f 0;have f1:=(qU B6).f 1;have f2:=(qU B6).f 2;have f3:=(qU B6).f 3;go_wp2_with fail
     (try simp only [Exit.inBlock,Exit.then])
     exact bodyPost_ret (yb.ret_box2 rfl rfl ((qU B6).setA _ _ _ _)) rfl (by rw [qU EO'];exact⟨rfl,yb.grown_setA (qU G6) (Nat.le_succ _)⟩)
 ·rw [hE] at hem;have EO:Hid (O=none):=(qU HO).trans (if_pos (.inl (List.isEmpty_iff.1 hE)));have B5:=B1;have G5:=G1;have p0:=(qU B5).c0;have p1:=(qU B5).c1;have p2:=(qU B5).c2;have p3:=(qU B5).c3;have f0:=(qU B5).f 0;have f1:=(qU B5).f 1;have f2:=(qU B5).f 2;have f3:=(qU B5).f 3;clear hE HO CF CB B1 G1 F1;go_wp2_with fail
  (try simp only [Exit.inBlock,Exit.then])
  exact bodyPost_ret (yb.ret_box2 rfl rfl ((qU B5).setA _ _ _ _)) rfl (by rw [qU EO];exact⟨rfl,yb.grown_setA (qU G5) (Nat.le_succ _)⟩)
end yi
namespace yi
open da (digT)
open yb (Box4 CertE)
open yg (sgB)
open yh (refL fnd)
theorem specIssue (key:ByteArray)(v:Value)(n:Int)(LL:List (List Int))(w:World)(hk:key.size<=1048576)(hn:tot LL<=1048576)(hv:Sls w v LL) :
  Calls Tryz.prog 9 #[.string key,.agg #[.int .i64 n,v]] w fun e w'=>CertE w (issO key n LL) e w':=by
 have g0:=qT (sl.qA w (.cells #[.int .i64 n,v] 26) none) (sl.qA _ (.cells #[.string ⟨#[]⟩,.bool false,.string ⟨#[]⟩,.string ⟨#[]⟩] 30) none);have F0:=qH ((Box.new 26 w (.int .i64 n) v).kept (sl.qA _ (.cells #[.string ⟨#[]⟩,.bool false,.string ⟨#[]⟩,.string ⟨#[]⟩] 30) none));have B0:=Box4.new 30 (w.alloc (.cells #[.int .i64 n,v] 26)) (.string ⟨#[]⟩) (.bool false) (.string ⟨#[]⟩) (.string ⟨#[]⟩);rw [World.size_alloc] at B0;have HB0:=qH B0;have CD:=qH (fun w1 (g:w.grownBy w1 none)=>da.specDigest v n LL w1 hn (hv.kept g));have CS:=qH (fun w1 (g:w.grownBy w1 none)=>lq.specSolve v n LL w1 hn (hv.kept g))
 have CR:=qH (fun w1 (g:w.grownBy w1 none)=>xw.specRefute v n LL w1 hn (hv.kept g));have G0:=qH g0;obtain⟨W0,hW0⟩:∃ W0,W0=(w.alloc (.cells #[.int .i64 n,v] 26)).alloc (.cells #[.string ⟨#[]⟩,.bool false,.string ⟨#[]⟩,.string ⟨#[]⟩] 30):=⟨_,rfl⟩;rw [←hW0] at F0 HB0 G0;have hls:=solve_len n LL [];have hlr:=xw.wlk_bd n LL;have hds:=dig_size n LL;have hem:=da.empty_list (digT n LL);unfold dec.str at CD;unfold lq.FromE at CS;unfold xw.WalkE at CR
 change Hid (∀ w1,w.grownBy w1 none->Calls Tryz.prog 28 #[.agg #[.int .i64 n,v]] w1 fun e w'=>e=.returned (.string (digB n LL))/\w1.grownBy w' none) at CD
 change Hid (∀ w1,w.grownBy w1 none->Calls Tryz.prog 30 #[.agg #[.int .i64 n,v]] w1 fun e w'=>∃ r,e=.returned (.tuple #[r,.bool (refL n LL).2])/\OwnS w1.heap.size w'.heap.size w' r (refL n LL).1/\w1.grownBy w' none) at CR
 change tot (refL n LL).1<=500000 at hlr
 change ((digB n LL).toList == [])=_ at hem
 have HI:issO key n LL=if digT n LL=[]∨64<key.size∨(fnd n LL).2=false then none
  else some (digB n LL,satB (fnd n LL).1,bodyB (fnd n LL).1,markB key (digB n LL) (satB (fnd n LL).1) (bodyB (fnd n LL).1)):=rfl
 have HF:fnd n LL=match solveL n LL [] with
  | some A=>(.inl A,true)
  | none=>(.inr (refL n LL).1,(refL n LL).2):=rfl
 generalize issO key n LL=O at *;generalize digB n LL=D at *;generalize hdt:digT n LL=DT at *;generalize fnd n LL=FN at *;generalize solveL n LL []=SO at *;generalize refL n LL=RO at *;have x0:=(qU F0).c0;have x1:=(qU F0).c1;clear g0 B0 hdt;go_enter Tryz.func9,Tryz.ntmps9
 go_upto_region 1 with fail
 rw [←hW0];clear hW0;go_wp2_with fail;refine (qU CD W0 (qU G0)).mono ?_;rintro e w1 ⟨rfl,g1⟩;have hlt:w.heap.size+1<w1.heap.size:=Nat.lt_of_lt_of_le (qU HB0).lt g1.size;obtain⟨W1,hW1⟩:∃ W1,W1=w1.alloc (.cells #[.string D,.bool false,.string ⟨#[]⟩,.string ⟨#[]⟩] 30):=⟨_,rfl⟩;have ga:w1.grownBy W1 none:=by rw [hW1];exact sl.qA w1 _ none
 have C1:Hid (Box4 30 W1 w1.heap.size (.string D) (.bool false) (.string ⟨#[]⟩) (.string ⟨#[]⟩)):=by rw [hW1];exact Box4.new 30 w1 _ _ _ _
 have G1:=qH (qT (qT (qU G0) g1) ga);have F1:=qH (((qU F0).kept g1).kept ga);have B1:=qH (((qU HB0).kept g1).kept ga);have h1:w.heap.size<=w1.heap.size:=by omega
 have hne:w1.heap.size≠w.heap.size+1:=by omega
 clear g1 ga G0 F0 HB0 x0 x1 CD;have HO:=qH HI;have HFN:=qH HF;clear HI HF
 go_upto_region 2 with fail
 rw [←hW1];clear hW1;generalize w1.heap.size=c at *;have q0:=(qU C1).c0;cases hE:DT.isEmpty
 ·rw [hE] at hem;have hnt:DT≠[]:=fun e=>by rw [e] at hE;cases hE
  have NE:=qH hnt;clear hnt hE;by_cases h64:64<key.size
  ·have h64':(64:Int)<(key.size:Int):=by omega
   have EO:Hid (O=none):=(qU HO).trans (if_pos (.inr (.inl h64)));have B5:=B1;have G5:=G1;have p0:=(qU B5).c0;have p1:=(qU B5).c1;have p2:=(qU B5).c2;have p3:=(qU B5).c3;have f0:=(qU B5).f 0;have f1:=(qU B5).f 1;have f2:=(qU B5).f 2;have f3:=(qU B5).f 3;clear h64 HO HFN NE CS CR B1 G1 F1 C1;go_wp2_with fail
   (try simp only [Exit.inBlock,Exit.then])
   exact bodyPost_ret (yb.ret_box2 rfl rfl ((qU B5).setA _ _ _ _)) rfl (by rw [qU EO];exact⟨rfl,yb.grown_setA (qU G5) (Nat.le_succ _)⟩)
  ·have h64':¬ (64:Int)<(key.size:Int):=by omega
   have H64:=qH h64;have x0:=(qU F1).c0;have x1:=(qU F1).c1;clear h64;cases SO with
   | some A =>
    have hA:A.length<=24:=hls;have EO:=qH ((qU HO).trans (if_neg (fun h=>by rw [qU HFN] at h;rcases h with h | h | h;exact qU NE h;exact qU H64 h;cases h)));rw [qU HFN] at EO;clear HO HFN NE H64 CR hls hlr;go_wp2_with fail;refine (qU CS W1 (qU G1)).mono ?_;rintro e w2 ⟨r,rfl,m2⟩;have m2':Made W1 w2 r A:=m2;obtain⟨ra,rc,er,hr⟩:=sl.Sl.of_own m2'.1;subst er;have G2:=qH (qT (qU G1) m2'.2);have B2:=qH ((qU B1).kept m2'.2);have C2:=qH ((qU C1).kept m2'.2);have SR:=qH (sl.Sl.of_own m2'.1);have RN:Hid ((Value.slice ra A.length rc).ownBlock≠some c):=fun e=>by have h1:=(m2'.1.lt c e).1;have h2:=(qU C1).lt;omega
    clear m2 m2' hr CS G1 B1 C1 F1 x0 x1 q0;simp only [Option.isSome_some];have q1:=(qU C2).c1;have qf:=(qU C2).f 1;obtain⟨W2,hW2⟩:∃ W2,W2=w2.setCell ⟨c,1,none⟩ (.bool true):=⟨_,rfl⟩;have gs:w2.grownBy W2 (some c):=by rw [hW2];exact sl.grown_setCell w2 c 1 _
    have CY:=qH (as_.specAssignText (.slice ra A.length rc) A W2 (by omega) ((qU SR).kept gs (.inr (qU RN))));have C2':Hid (Box4 30 W2 c (.string D) (.bool true) (.string ⟨#[]⟩) (.string ⟨#[]⟩)):=by rw [hW2];exact (qU C2).set1 _
    have B2':Hid (Box4 30 W2 (w.heap.size+1) (.string ⟨#[]⟩) (.bool false) (.string ⟨#[]⟩) (.string ⟨#[]⟩)):=by rw [hW2];exact (qU B2).setO hne
    have G2':Hid (w.grownBy W2 none):=by rw [hW2];exact yb.grown_set (qU G2) h1
    clear gs SR C2 B2 G2
    go_upto_region 7 with fail
    rw [←hW2];clear hW2 q1 qf;go_wp2_with fail;refine (qU CY).mono ?_;rintro e w3 ⟨rfl,g3⟩;unfold dec.str;have G3:=qH (qT (qU G2') g3);have B3:=qH ((qU B2').kept g3);have C3:=qH ((qU C2').kept g3);clear g3 G2' B2' C2' CY;have hbs:(⟨(asText A).toArray⟩:ByteArray).size<=400000:=body_size (.inl A);have EO':Hid (O=some (D,true,⟨(asText A).toArray⟩,markB key D true ⟨(asText A).toArray⟩)):=qU EO;generalize (⟨(asText A).toArray⟩:ByteArray)=bb at *;have CG:=qH (fun w1=>yg.specSigned D true bb ⟨#[]⟩ w1 (by omega) (by omega));have hsz:(sgB D true bb).size<=1048576:=by rw [yg.sg_size];omega
    have CM:=qH (fun w1=>zr.specMac key (sgB D true bb) w1 hk hsz);unfold dec.str at CM
    change Hid (∀ w1,Calls Tryz.prog 32 #[.string key,.string (sgB D true bb)] w1 fun e w'=>e=.returned (.string (markB key D true bb))/\w1.grownBy w' none) at CM
    generalize markB key D true bb=mk at *;generalize sgB D true bb=sg at *;clear EO hsz hbs hds hem;have q2:=(qU C3).c2;have qf:=(qU C3).f 2;obtain⟨W4,hW4⟩:∃ W4,W4=w3.setCell ⟨c,2,none⟩ (.string bb):=⟨_,rfl⟩;have C4:Hid (Box4 30 W4 c (.string D) (.bool true) (.string bb) (.string ⟨#[]⟩)):=by rw [hW4];exact (qU C3).set2 _
    have B4:Hid (Box4 30 W4 (w.heap.size+1) (.string ⟨#[]⟩) (.bool false) (.string ⟨#[]⟩) (.string ⟨#[]⟩)):=by rw [hW4];exact (qU B3).setO hne
    have G4:Hid (w.grownBy W4 none):=by rw [hW4];exact yb.grown_set (qU G3) h1
    clear C3 B3 G3
    go_upto_region 12 with fail
    rw [←hW4];clear hW4 q2 qf;have q0:=(qU C4).c0;have q1:=(qU C4).c1;have q2:=(qU C4).c2;have q3:=(qU C4).c3;go_wp2_with fail;refine (qU CG _).mono ?_;rintro e w5 ⟨rfl,g5⟩;have G5:=qH (qT (qU G4) g5);have B5:=qH ((qU B4).kept g5);have C5:=qH ((qU C4).kept g5);clear g5 G4 B4 C4 CG q0 q1 q2 q3;go_wp2_with fail;refine (qU CM _).mono ?_;rintro e w6 ⟨rfl,g6⟩;have G6:=qH (qT (qU G5) g6);have B6:=qH ((qU B5).kept g6);have C6:=qH ((qU C5).kept g6);clear g6 G5 B5 C5 CM;have q3:=(qU C6).c3;have qf:=(qU C6).f 3;obtain⟨W7,hW7⟩:∃ W7,W7=w6.setCell ⟨c,3,none⟩ (.string mk):=⟨_,rfl⟩
    have C7:Hid (Box4 30 W7 c (.string D) (.bool true) (.string bb) (.string mk)):=by rw [hW7];exact (qU C6).set3 _
    have B7:Hid (Box4 30 W7 (w.heap.size+1) (.string ⟨#[]⟩) (.bool false) (.string ⟨#[]⟩) (.string ⟨#[]⟩)):=by rw [hW7];exact (qU B6).setO hne
    have G7:Hid (w.grownBy W7 none):=by rw [hW7];exact yb.grown_set (qU G6) h1
    clear G6 B6 C6
    go_upto_region 13 with fail
    rw [←hW7];clear hW7 q3 qf;have q0:=(qU C7).c0;have q1:=(qU C7).c1;have q2:=(qU C7).c2;have q3:=(qU C7).c3;have p0:=(qU B7).c0;have p1:=(qU B7).c1;have p2:=(qU B7).c2;have p3:=(qU B7).c3;have f0:=(qU B7).f 0;have f1:=(qU B7).f 1;have f2:=(qU B7).f 2;have f3:=(qU B7).f 3;go_wp2_with fail
    (try simp only [Exit.inBlock,Exit.then])
    exact bodyPost_ret (yb.ret_box2 rfl rfl ((qU B7).setA _ _ _ _)) rfl (by rw [qU EO'];exact⟨rfl,yb.grown_setA (qU G7) (Nat.le_succ _)⟩)
   | none =>
    go_wp2_with fail;refine (qU CS W1 (qU G1)).mono ?_;rintro e w2 ⟨r,rfl,m2⟩;have m2':Made W1 w2 r []:=m2;obtain⟨ra,rc,er,hr⟩:=sl.Sl.of_own m2'.1;subst er;have G2:=qH (qT (qU G1) m2'.2);have B2:=qH ((qU B1).kept m2'.2);have C2:=qH ((qU C1).kept m2'.2);have F2:=qH ((qU F1).kept m2'.2);clear m2 m2' hr CS G1 B1 C1 F1 x0 x1 q0 hls;simp only [Option.isSome_none];have x0:=(qU F2).c0;have x1:=(qU F2).c1;obtain⟨R,ok⟩:=RO;have hR:tot R<=500000:=hlr;clear hlr;go_wp2_with fail;refine (qU CR w2 (qU G2)).mono ?_;rintro e w3 ⟨r2,rfl,o3,g3⟩;obtain⟨pa,pc,rfl⟩:=o3.len;have G3:=qH (qT (qU G2) g3)
    have B3:=qH ((qU B2).kept g3);have C3:=qH ((qU C2).kept g3);have O3:=qH o3;clear o3 g3 G2 B2 C2 F2 CR x0 x1;cases ok
    ·have EO:Hid (O=none):=(qU HO).trans (if_pos (.inr (.inr (by rw [qU HFN]))));have B5:=B3;have G5:=G3;have p0:=(qU B5).c0;have p1:=(qU B5).c1;have p2:=(qU B5).c2;have p3:=(qU B5).c3;have f0:=(qU B5).f 0;have f1:=(qU B5).f 1;have f2:=(qU B5).f 2;have f3:=(qU B5).f 3;clear H64 HO HFN NE B3 G3 C3 O3;go_wp2_with fail
     (try simp only [Exit.inBlock,Exit.then])
     exact bodyPost_ret (yb.ret_box2 rfl rfl ((qU B5).setA _ _ _ _)) rfl (by rw [qU EO];exact⟨rfl,yb.grown_setA (qU G5) (Nat.le_succ _)⟩)
    ·have EO:=qH ((qU HO).trans (if_neg (fun h=>by rw [qU HFN] at h;rcases h with h | h | h;exact qU NE h;exact qU H64 h;cases h)));rw [qU HFN] at EO;have CY:=qH (pt.specProofText (.slice pa R.length pc) R w3 (by omega) (qU O3).sls);clear HO HFN NE H64 O3;go_wp2_with fail;refine (qU CY).mono ?_;rintro e w4 ⟨rfl,g4⟩;unfold dec.str;replace G3:=qH (qT (qU G3) g4);replace B3:=qH ((qU B3).kept g4);replace C3:=qH ((qU C3).kept g4);clear g4 CY;have hbs:(⟨(prf R).toArray⟩:ByteArray).size<=400000:=body_size (.inr R);have EO':Hid (O=some (D,false,⟨(prf R).toArray⟩,markB key D false ⟨(prf R).toArray⟩)):=qU EO
     generalize (⟨(prf R).toArray⟩:ByteArray)=bb at *;have CG:=qH (fun w1=>yg.specSigned D false bb ⟨#[]⟩ w1 (by omega) (by omega));have hsz:(sgB D false bb).size<=1048576:=by rw [yg.sg_size];omega
     have CM:=qH (fun w1=>zr.specMac key (sgB D false bb) w1 hk hsz);unfold dec.str at CM
     change Hid (∀ w1,Calls Tryz.prog 32 #[.string key,.string (sgB D false bb)] w1 fun e w'=>e=.returned (.string (markB key D false bb))/\w1.grownBy w' none) at CM
     generalize markB key D false bb=mk at *;generalize sgB D false bb=sg at *;clear EO hsz hbs hds hem;have q2:=(qU C3).c2;have qf:=(qU C3).f 2;obtain⟨W4,hW4⟩:∃ W4,W4=w4.setCell ⟨c,2,none⟩ (.string bb):=⟨_,rfl⟩;have C4:Hid (Box4 30 W4 c (.string D) (.bool false) (.string bb) (.string ⟨#[]⟩)):=by rw [hW4];exact (qU C3).set2 _
     have B4:Hid (Box4 30 W4 (w.heap.size+1) (.string ⟨#[]⟩) (.bool false) (.string ⟨#[]⟩) (.string ⟨#[]⟩)):=by rw [hW4];exact (qU B3).setO hne
     have G4:Hid (w.grownBy W4 none):=by rw [hW4];exact yb.grown_set (qU G3) h1
     clear C3 B3 G3
     go_upto_region 12 with fail
     rw [←hW4];clear hW4 q2 qf;have q0:=(qU C4).c0;have q1:=(qU C4).c1;have q2:=(qU C4).c2;have q3:=(qU C4).c3;go_wp2_with fail;refine (qU CG _).mono ?_;rintro e w5 ⟨rfl,g5⟩;have G5:=qH (qT (qU G4) g5);have B5:=qH ((qU B4).kept g5);have C5:=qH ((qU C4).kept g5);clear g5 G4 B4 C4 CG q0 q1 q2 q3;go_wp2_with fail;refine (qU CM _).mono ?_;rintro e w6 ⟨rfl,g6⟩;have G6:=qH (qT (qU G5) g6);have B6:=qH ((qU B5).kept g6);have C6:=qH ((qU C5).kept g6);clear g6 G5 B5 C5 CM;have q3:=(qU C6).c3;have qf:=(qU C6).f 3;obtain⟨W7,hW7⟩:∃ W7,W7=w6.setCell ⟨c,3,none⟩ (.string mk):=⟨_,rfl⟩
     have C7:Hid (Box4 30 W7 c (.string D) (.bool false) (.string bb) (.string mk)):=by rw [hW7];exact (qU C6).set3 _
     have B7:Hid (Box4 30 W7 (w.heap.size+1) (.string ⟨#[]⟩) (.bool false) (.string ⟨#[]⟩) (.string ⟨#[]⟩)):=by rw [hW7];exact (qU B6).setO hne
     have G7:Hid (w.grownBy W7 none):=by rw [hW7];exact yb.grown_set (qU G6) h1
     clear G6 B6 C6
     go_upto_region 13 with fail
     rw [←hW7];clear hW7 q3 qf;have q0:=(qU C7).c0;have q1:=(qU C7).c1;have q2:=(qU C7).c2;have q3:=(qU C7).c3;have p0:=(qU B7).c0;have p1:=(qU B7).c1;have p2:=(qU B7).c2;have p3:=(qU B7).c3;have f0:=(qU B7).f 0;have f1:=(qU B7).f 1;have f2:=(qU B7).f 2;have f3:=(qU B7).f 3;go_wp2_with fail
     (try simp only [Exit.inBlock,Exit.then])
     exact bodyPost_ret (yb.ret_box2 rfl rfl ((qU B7).setA _ _ _ _)) rfl (by rw [qU EO'];exact⟨rfl,yb.grown_setA (qU G7) (Nat.le_succ _)⟩)
 ·rw [hE] at hem;have EO:Hid (O=none):=(qU HO).trans (if_pos (.inl (List.isEmpty_iff.1 hE)));have B5:=B1;have G5:=G1;have p0:=(qU B5).c0;have p1:=(qU B5).c1;have p2:=(qU B5).c2;have p3:=(qU B5).c3;have f0:=(qU B5).f 0;have f1:=(qU B5).f 1;have f2:=(qU B5).f 2;have f3:=(qU B5).f 3;clear hE HO HFN CS CR B1 G1 F1 C1;go_wp2_with fail
  (try simp only [Exit.inBlock,Exit.then])
  exact bodyPost_ret (yb.ret_box2 rfl rfl ((qU B5).setA _ _ _ _)) rfl (by rw [qU EO];exact⟨rfl,yb.grown_setA (qU G5) (Nat.le_succ _)⟩)
end yi
end Go.Proofs.YtddmmoehlabkiaaGreatDoor
