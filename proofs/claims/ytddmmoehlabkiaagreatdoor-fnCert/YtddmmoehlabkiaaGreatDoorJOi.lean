/- What spec.DrawIssue and spec.DrawVerify draw: a key, a formula and a certificate, in memory of their own; nothing old is written. -/
import Derived.Test.YtddmmoehlabkiaaGreatDoorJOf
import Derived.Test.YtddmmoehlabkiaaGreatDoorJXZv
import Derived.Test.YtddmmoehlabkiaaGreatDoorJOe
import Derived.Laws.StructEq
namespace Go.Proofs.YtddmmoehlabkiaaGreatDoor
set_option linter.unusedVariables false
set_option maxRecDepth 100000
open Go.ChangeShapes Go.WideShapes Go.ChangeAt Go.RowKit
open sl (grown_trans below_of)
open css (OwnS tot)
open cf (Box)
open draw (Bs newCur grown_new)
open yb (Box4)
open sl (qH qU qT)
set_option maxHeartbeats 8000000
namespace ia
open draw (Cur)
open yb (cellsC)
theorem mark_size (key d:ByteArray)(sat:Bool)(b:ByteArray):(yi.markB key d sat b).size<=1024:=by
 show (zr.macT key (yg.sgB d sat b)).toArray.size<=_;rw [List.size_toArray];unfold zr.macT
 split
 ·exact Nat.le_trans (zr.sumT_len _) (by decide)
 ·exact Nat.zero_le _
theorem iss_bd (key:ByteArray)(n:Int)(LL:List (List Int)):∃ (d:ByteArray) (sat:Bool) (b m:ByteArray) (ok:Bool),cellsC (yi.issO key n LL)=#[.string d,.bool sat,.string b,.string m]/\(yi.issO key n LL).isSome=ok/\d.size<=1024/\m.size<=1024/\b.size<=400000:=by
 unfold yi.issO
 split
 ·exact⟨_,_,_,_,_,rfl,rfl,by decide,by decide,by decide⟩
 ·exact⟨_,_,_,_,_,rfl,rfl,yi.dig_size n LL,mark_size _ _ _ _,yi.body_size _⟩
theorem ret_tc {fn:Func}{p u:Tmp}{tmps:Array Value}{w:World}{c:Nat}{x y:Value}(h:fn.results=#[.tmp u,.cell p 26])(hp:tmps.getD p undef=.pointer (some ⟨c,0,none⟩))(hb:Box 26 w c x y) :
  (results fn tmps).run Tryz.prog w=.ok (.tuple #[tmps.getD u undef,.agg #[x,y]]) w:=by
 have e:(results fn tmps).run Tryz.prog w=((asAddr (tmps.getD p undef)).run Tryz.prog w).andThen fun a w₁=>((loadVar 26 a).run Tryz.prog w₁).andThen fun v w₂=>.ok (.tuple #[tmps.getD u undef,v]) w₂:=by
  simp only [results,h];simp [Sem.run_bind,Result.andThen]
 rw [e,hp];simp only [asAddr,Sem.run_pure,Result.andThen_ok];rw [run_loadVar_row w c 26 26 #[x,y] (0,0) _ hb Tryz.underlying26 rfl cf.sizeCnf];rfl
theorem ret_tcc {fn:Func}{p q u:Tmp}{tmps:Array Value}{w:World}{c e:Nat}{x y a b s z:Value}(h:fn.results=#[.tmp u,.cell p 26,.cell q 30])(hp:tmps.getD p undef=.pointer (some ⟨c,0,none⟩))(hq:tmps.getD q undef=.pointer (some ⟨e,0,none⟩))(hb:Box 26 w c x y)(hk:Box4 30 w e a b s z) :
  (results fn tmps).run Tryz.prog w=.ok (.tuple #[tmps.getD u undef,.agg #[x,y],.agg #[a,b,s,z]]) w:=by
 have e1:(results fn tmps).run Tryz.prog w=((asAddr (tmps.getD p undef)).run Tryz.prog w).andThen fun a w₁=>((loadVar 26 a).run Tryz.prog w₁).andThen fun v w₂=>((asAddr (tmps.getD q undef)).run Tryz.prog w₂).andThen fun a3 w₃=>((loadVar 30 a3).run Tryz.prog w₃).andThen fun v4 w₄=>.ok (.tuple #[tmps.getD u undef,v,v4]) w₄:=by
  simp only [results,h];simp [Sem.run_bind,Result.andThen]
 rw [e1,hp,hq];simp only [asAddr,Sem.run_pure,Result.andThen_ok];rw [run_loadVar_row w c 26 26 #[x,y] (0,0) _ hb Tryz.underlying26 rfl cf.sizeCnf];simp only [Result.andThen_ok];rw [run_loadVar_row w e 30 30 #[a,b,s,z] (0,0) _ hk Tryz.underlying30 rfl yb.sizeQ];rfl
def Lows (n:Int)(LL:List (List Int)):Prop:=(n<=7∨∀ L∈LL,dcn.Low L)/\(n<=25)/\tot LL<=1048576
theorem drawIssue (a:Option Addr)(n cap:Nat)(w:World)(hn:n<=1048576)(hB:Bs w a n) :
  Calls Tryz.prog 7 #[.slice a n cap] w fun e w'=>∃ (k:ByteArray) (q:Int) (v:Value) (LL:List (List Int)),e=.returned (.tuple #[.string k,.agg #[.int .i64 q,v]])/\k.size<=65/\Lows q LL/\OwnS w.heap.size w'.heap.size w' v LL/\w.grownBy w' none:=by
 have ga:=sl.qA w (.cells #[.int .i64 0,.slice none 0 0] 26) none;have nc:=newCur a n cap _ hn (hB.below (below_of ga));simp only [World.size_alloc] at nc;have NC:=qH nc;have R0:=qH (Box.new 26 w (.int .i64 0) (.slice none 0 0));have GA:=qH ga;clear hB nc ga;go_enter Tryz.func7,Tryz.ntmps7;go_wp2_with fail;refine (qU NC).mono ?_;rintro e w1 ⟨rfl,hc1,g1⟩;have C1:=qH hc1;have G1:=qH (qT (qU GA) g1);have R1:=qH ((qU R0).kept g1);clear hc1 g1 NC R0 GA;go_wp2_with fail;refine (zv.pair _ _ (qU C1)).mono ?_;rintro e w2 ⟨k,s,rfl,hk,hs,hc2,g2⟩;have C2:=qH hc2;have G2:=qH (grown_new (qU G1) g2 (Nat.le_succ _))
 have R2:=qH ((qU R1).by g2 (fun e=>by simp only [Option.some.injEq] at e;omega));have HK:=qH hk;clear hc2 g2 C1 G1 R1 hs hk;go_wp2_with fail;refine (dr.l09Cnf _ _ (qU C2)).mono ?_;rintro e w3 ⟨q,v,M,rfl,hq,hT,⟨od,gd,cd⟩⟩;obtain⟨va,vc,rfl⟩:=od.len;have G3:=qH (grown_new (qU G2) gd (Nat.le_succ _));have R3:=qH ((qU R2).by gd (fun e=>by simp only [Option.some.injEq] at e;omega));have HQ:Hid (Lows q M):=⟨hq.2,hq.1.2,hT⟩;have OD:=qH od;have sz2:w.heap.size+1<=w2.heap.size:=by have:=(qU R2).lt;omega
 have p0:=(qU R3).c0;have p1:=(qU R3).c1;have f0:=(qU R3).f 0;have f1:=(qU R3).f 1;clear hq hT od gd cd C2 G2 R2;go_wp2_with fail
 (try simp only [Exit.inBlock,Exit.then])
 refine bodyPost_ret (ret_tc rfl rfl (((qU R3).set0 (.int .i64 q)).set1 (.slice va M.length vc))) rfl ⟨k,q,_,M,rfl,qU HK,qU HQ,?_,?_⟩
 ·rw [cf.size_set,cf.size_set];exact (cf.ownS_set (cf.ownS_set (qU OD) (by omega)) (by omega)).sub (by omega) (Nat.le_refl _)
 ·exact cf.grown_set (cf.grown_set (qU G3) (by omega)) (by omega)
structure DV (w wr:World) (c fb kb:Nat) (n:Int) (v:Value) (LL:List (List Int)) (d:ByteArray) (sat:Bool) (b m:ByteArray):Prop where
 g:w.grownBy wr none
 cur:Cur wr c
 r3:Box 26 wr w.heap.size (.int .i64 0) (.slice none 0 0)
 r4:Box4 30 wr (w.heap.size+1) (.string ⟨#[]⟩) (.bool false) (.string ⟨#[]⟩) (.string ⟨#[]⟩)
 bf:Box 26 wr fb (.int .i64 n) v
 bk:Box4 30 wr kb (.string d) (.bool sat) (.string b) (.string m)
 hc:w.heap.size+2<=c
 hf:c<fb
 hk:fb<kb
 own:∃ lo hi,OwnS lo hi wr v LL/\c<lo/\(fb<lo∨hi<=fb)/\(kb<lo∨hi<=kb)/\hi<=wr.heap.size
 lows:Lows n LL
 bd:d.size<=1024/\b.size<=400100/\m.size<=1024
theorem ownS_one {lo hi x:Nat}{w w1:World}{v:Value}{LL:List (List Int)}(h:OwnS lo hi w v LL)(g:w.grownBy w1 (some x))(hx:x<lo∨hi<=x):OwnS lo hi w1 v LL :=
 h.outs (css.outs_by (lo:=x) (hi:=x+1) g (fun k e=>by cases e;omega)) (by omega)
theorem DV.turn {w wr w1:World}{c fb kb:Nat}{n:Int}{v:Value}{LL:List (List Int)}{d b m:ByteArray}{sat:Bool}(h:DV w wr c fb kb n v LL d sat b m)(g:wr.grownBy w1 (some c))(hc:Cur w1 c):DV w w1 c fb kb n v LL d sat b m:=by
 have h1:=h.hc;have h2:=h.hf;have h3:=h.hk;obtain⟨lo,hi,o,a1,a2,a3,a4⟩:=h.own;exact⟨grown_new h.g g (by omega),hc,h.r3.by g (fun e=>by simp only [Option.some.injEq] at e;omega),h.r4.by g (fun e=>by simp only [Option.some.injEq] at e;omega),h.bf.by g (fun e=>by simp only [Option.some.injEq] at e;omega),h.bk.by g (fun e=>by simp only [Option.some.injEq] at e;omega),h1,h2,h3,⟨lo,hi,ownS_one o g (by omega),a1,a2,a3,Nat.le_trans a4 g.size⟩,h.lows,h.bd⟩
theorem DV.kept {w wr w1:World}{c fb kb:Nat}{n:Int}{v:Value}{LL:List (List Int)}{d b m:ByteArray}{sat:Bool}(h:DV w wr c fb kb n v LL d sat b m)(g:wr.grownBy w1 none):DV w w1 c fb kb n v LL d sat b m:=by
 obtain⟨lo,hi,o,a1,a2,a3,a4⟩:=h.own;exact⟨qT h.g g,h.cur.kept g nofun,h.r3.kept g,h.r4.kept g,h.bf.kept g,h.bk.kept g,h.hc,h.hf,h.hk,⟨lo,hi,o.kept g,a1,a2,a3,Nat.le_trans a4 g.size⟩,h.lows,h.bd⟩
theorem DV.cell {w wr:World}{c fb kb:Nat}{n:Int}{v:Value}{LL:List (List Int)}{d b m d' b' m':ByteArray}{sat sat':Bool}{i:Nat}{u:Value}(h:DV w wr c fb kb n v LL d sat b m)(hb:Box4 30 (wr.setCell ⟨kb,i,none⟩ u) kb (.string d') (.bool sat') (.string b') (.string m'))(hd:d'.size<=1024/\b'.size<=400100/\m'.size<=1024):DV w (wr.setCell ⟨kb,i,none⟩ u) c fb kb n v LL d' sat' b' m':=by
 have h1:=h.hc;have h2:=h.hf;have h3:=h.hk;have g:=sl.grown_setCell wr kb i u;obtain⟨lo,hi,o,a1,a2,a3,a4⟩:=h.own;exact⟨grown_new h.g g (by omega),h.cur.kept g (fun r e=>by cases e;omega),h.r3.by g (fun e=>by simp only [Option.some.injEq] at e;omega),h.r4.by g (fun e=>by simp only [Option.some.injEq] at e;omega),h.bf.by g (fun e=>by simp only [Option.some.injEq] at e;omega),hb,h1,h2,h3,⟨lo,hi,ownS_one o g (by omega),a1,a2,a3,Nat.le_trans a4 g.size⟩,h.lows,hd⟩
theorem DV.form {w wr w1:World}{c fb kb:Nat}{n n':Int}{v v':Value}{LL M:List (List Int)}{d b m:ByteArray}{sat:Bool}(h:DV w wr c fb kb n v LL d sat b m)(g:wr.grownBy w1 (some c))(hc:Cur w1 c)(o:OwnS wr.heap.size w1.heap.size w1 v' M)(hl:Lows n' M):DV w ((w1.setCell ⟨fb,0,none⟩ (.int .i64 n')).setCell ⟨fb,1,none⟩ v') c fb kb n' v' M d sat b m:=by
 have k:=h.turn g hc;have h1:=h.hc;have h2:=h.hf;have h3:=h.hk;have h4:=h.bk.lt;have h5:=h.bf.lt;have g1:=sl.grown_setCell w1 fb 0 (.int .i64 n');have g2:=sl.grown_setCell (w1.setCell ⟨fb,0,none⟩ (.int .i64 n')) fb 1 v';have gg:=sl.grown_trans' g1 g2;exact⟨grown_new k.g gg (by omega),k.cur.kept gg (fun r e=>by cases e;omega),k.r3.by gg (fun e=>by simp only [Option.some.injEq] at e;omega),k.r4.by gg (fun e=>by simp only [Option.some.injEq] at e;omega),(k.bf.set0 _).set1 _,k.bk.by gg (fun e=>by simp only [Option.some.injEq] at e;omega),h1,h2,h3,⟨_,_,ownS_one o gg (by omega),by omega,by omega,by omega,gg.size⟩,hl,h.bd⟩
def VerE (w:World)(k:ByteArray)(e:Ending)(w':World):Prop:=∃ (n:Int) (v:Value) (LL:List (List Int)) (d:ByteArray) (sat:Bool) (b m:ByteArray) (lo hi:Nat),
 e=.returned (.tuple #[.string k,.agg #[.int .i64 n,v],.agg #[.string d,.bool sat,.string b,.string m]])/\tot LL<=1048576/\d.size<=1024/\b.size<=400100/\OwnS lo hi w' v LL/\hi<=w'.heap.size/\w.grownBy w' none
theorem DV.done {w wr w1:World}{c fb kb:Nat}{n:Int}{v:Value}{LL:List (List Int)}{d b m k:ByteArray}{sat:Bool}(h:DV w wr c fb kb n v LL d sat b m)(g:wr.grownBy w1 (some w.heap.size))(w2:World)(g2:w1.grownBy w2 (some (w.heap.size+1))):VerE w k (.returned (.tuple #[.string k,.agg #[.int .i64 n,v],.agg #[.string d,.bool sat,.string b,.string m]])) w2:=by
 have h1:=h.hc;obtain⟨lo,hi,o,a1,a2,a3,a4⟩:=h.own;exact⟨n,v,LL,d,sat,b,m,lo,hi,rfl,h.lows.2.2,h.bd.1,h.bd.2.1,ownS_one (ownS_one o g (by omega)) g2 (by omega),Nat.le_trans a4 (Nat.le_trans g.size g2.size),grown_new (grown_new h.g g (Nat.le_refl _)) g2 (by omega)⟩
end ia
namespace ia
open dcls (MadeC MadeC.start appendC)
theorem as_size (A:List Int):(as_.asText A).length<=400000:=by
 rcases dv.asText_nil A with h | ⟨h1,h2,_⟩
 ·rw [h];exact Nat.zero_le _
 ·rw [as_.asText_yes h1 h2,txt.text_yes (ra.tl_okAll h1),List.length_append];have q:=txt.body_len _ (ra.tl_ok A 0 (by omega));rw [as_.tl_len] at q;simp;omega
theorem drawVerify (a:Option Addr)(n cap:Nat)(w:World)(hn:n<=1048576)(hB:Bs w a n) :
  Calls Tryz.prog 12 #[.slice a n cap] w fun e w'=>∃ k:ByteArray,k.size<=65/\VerE w k e w':=by
 obtain⟨W0,hW0⟩:∃ W0,W0=(w.alloc (.cells #[.int .i64 0,.slice none 0 0] 26)).alloc (.cells #[.string ⟨#[]⟩,.bool false,.string ⟨#[]⟩,.string ⟨#[]⟩] 30):=⟨_,rfl⟩;have ga:w.grownBy W0 none:=by rw [hW0];exact grown_trans (sl.qA _ _ _) (sl.qA _ _ _)
 have sz0:W0.heap.size=w.heap.size+2:=by rw [hW0];simp only [World.size_alloc]
 have nc:=newCur a n cap W0 hn (hB.below (below_of ga));rw [sz0] at nc;have NC:=qH nc;have R3:Hid (Box 26 W0 w.heap.size (.int .i64 0) (.slice none 0 0)):=by rw [hW0];exact (Box.new 26 w (.int .i64 0) (.slice none 0 0)).kept (sl.qA _ _ none)
 have R4:Hid (Box4 30 W0 (w.heap.size+1) (.string ⟨#[]⟩) (.bool false) (.string ⟨#[]⟩) (.string ⟨#[]⟩)):=by
  rw [hW0];have:=Box4.new 30 (w.alloc (.cells #[.int .i64 0,.slice none 0 0] 26)) (.string ⟨#[]⟩) (.bool false) (.string ⟨#[]⟩) (.string ⟨#[]⟩);rw [World.size_alloc] at this;exact this
 have GA:=qH ga;clear hB nc ga;go_enter Tryz.func12,Tryz.ntmps12;go_wp2_with fail;rw [←hW0];clear hW0;refine (qU NC).mono ?_;rintro e w1 ⟨rfl,hc1,g1⟩;have C1:=qH hc1;have G1:=qH (qT (qU GA) g1);have R31:=qH ((qU R3).kept g1);have R41:=qH ((qU R4).kept g1);clear hc1 g1 NC R3 R4 GA sz0;generalize hcq:w.heap.size+2=c at *;have hc:w.heap.size+2<=c:=by omega
 clear hcq;go_wp2_with fail;refine (draw.below c 5 _ (qU C1) (by decide) (by decide)).mono ?_;rintro e w2 ⟨x,rfl,x0,x1,hc2,g2⟩;obtain⟨x',rfl⟩:=Int.eq_ofNat_of_zero_le x0;have CA:=qH (zu.any c (1+x') w2 hc2 (by omega));rw [show (((1+x':Nat)):Int)=1+(x':Int) by omega] at CA;have hx':x'<=4:=by omega
 have G2:=qH (grown_new (qU G1) g2 (by omega));have R32:=qH ((qU R31).by g2 (fun e=>by simp only [Option.some.injEq] at e;omega));have R42:=qH ((qU R41).by g2 (fun e=>by simp only [Option.some.injEq] at e;omega));clear hc2 g2 C1 G1 R31 R41 x0 x1;go_wp2_with fail;refine (qU CA).mono ?_;rintro e w3 ⟨k,rfl,hk,hc3,g3⟩;have C3:=qH hc3;have G3:=qH (grown_new (qU G2) g3 (by omega));have R33:=qH ((qU R32).by g3 (fun e=>by simp only [Option.some.injEq] at e;omega));have R43:=qH ((qU R42).by g3 (fun e=>by simp only [Option.some.injEq] at e;omega));have HK:Hid (k.size<=65):=by show _<=_;omega
 clear hc3 g3 G2 R32 R42 CA hk;go_wp2_with fail;refine (dr.l09Cnf _ _ (qU C3)).mono ?_;rintro e w4 ⟨q,v,M,rfl,hq,hT,⟨od,gd,cd⟩⟩;obtain⟨va,vc,rfl⟩:=od.len;have HQ:Hid (Lows q M):=⟨hq.2,hq.1.2,hT⟩;have c3lt:=(qU C3).lt;have G4:=qH (grown_new (qU G3) gd (by omega));have R34:=qH ((qU R33).by gd (fun e=>by simp only [Option.some.injEq] at e;omega));have R44:=qH ((qU R43).by gd (fun e=>by simp only [Option.some.injEq] at e;omega));have C4:=qH cd;have OD:=qH od;have s34:=gd.size;clear hq hT od gd cd C3 G3 R33 R43;obtain⟨W5,hW5⟩:∃ W5,W5=w4.alloc (.cells #[.int .i64 q,.slice va M.length vc] 26):=⟨_,rfl⟩
 have g5:w4.grownBy W5 none:=by rw [hW5];exact sl.qA _ _ _
 have F5:Hid (Box 26 W5 w4.heap.size (.int .i64 q) (.slice va M.length vc)):=by rw [hW5];exact Box.new _ _ _ _
 have G5:=qH (qT (qU G4) g5);have R35:=qH ((qU R34).kept g5);have R45:=qH ((qU R44).kept g5);have C5:=qH ((qU C4).kept g5 nofun);have O5:=qH ((qU OD).kept g5);have KB:Hid (k.size<=1048576):=by show _<=_;have:=qU HK;omega
 have CI:=qH (yi.specIssue k (.slice va M.length vc) q M W5 (qU KB) (qU HQ).2.2 (qU O5).sls);obtain⟨d,sat,b,m,ok,hcc,hs,bd,bm,bb⟩:=iss_bd k q M;unfold yb.CertE at CI;rw [hcc,hs] at CI;have z0:=(qU F5).c0;have z1:=(qU F5).c1;rw [hW5] at z0 z1;clear G4 R34 R44 C4 OD g5 hcc hs;go_wp2_with fail;rw [←hW5];clear z0 z1;refine (qU CI).mono ?_;rintro e w6 ⟨rfl,g6⟩;obtain⟨W7,hW7⟩:∃ W7,W7=w6.alloc (.cells #[.string d,.bool sat,.string b,.string m] 30):=⟨_,rfl⟩;have g7:w6.grownBy W7 none:=by rw [hW7];exact sl.qA _ _ _
 have g57:=qT g6 g7;have fl:=(qU F5).lt;have DV7:Hid (DV w W7 c w4.heap.size w6.heap.size q (.slice va M.length vc) M d sat b m):=by
  refine⟨qT (qU G5) g57,(qU C5).kept g57 nofun,(qU R35).kept g57,(qU R45).kept g57,(qU F5).kept g57,?_,hc,?_,?_,⟨w3.heap.size,w4.heap.size,(qU O5).kept g57,c3lt,.inr (Nat.le_refl _),.inr ?_,?_⟩,qU HQ,⟨bd,by omega,bm⟩⟩
  ·rw [hW7];exact Box4.new _ _ _ _ _ _
  ·have:=(qU C5).lt;omega
  ·have:=g6.size;omega
  ·have:=g6.size;omega
  ·have:=g57.size;omega
 have CW:=qH (fun w' g=>(qU DV7).kept (w1:=w') g);have HBB:=qH bb;clear g6 g7 g57 fl R35 R45 C5 O5 F5 G5 CI HQ bd bm bb KB s34 c3lt
 go_upto_region 6 with fail
 rw [←hW7];clear hW7 hW5 CW;generalize w4.heap.size=fb at *;generalize w6.heap.size=kb at *;go_wp2_with fail;refine (draw.below c 10 _ (qU DV7).cur (by decide) (by decide)).mono ?_;rintro e w8 ⟨y,rfl,y0,y1,hc8,g8⟩;have D8:=qH ((qU DV7).turn g8 hc8);clear hc8 g8 DV7
 go_upto_block 0 with fail
 go_cut [10] (fun q wx=>∃ (bs:Bool) (q':Int) (v':Value) (M':List (List Int)) (d':ByteArray) (sat':Bool) (b' m':ByteArray),q=.bool bs/\Hid (DV w wx c fb kb q' v' M' d' sat' b' m'))
 case first =>
  have p0:=(qU D8).bk.c0;have p1:=(qU D8).bk.c1;have p2:=(qU D8).bk.c2;have p3:=(qU D8).bk.c3;have f0:=(qU D8).bk.f 0;have f1:=(qU D8).bk.f 1;have f2:=(qU D8).bk.f 2;have f3:=(qU D8).bk.f 3;by_cases e0:y=0
  ·subst e0;go_wp2_with fail;refine (zu.any c 32 _ (qU D8).cur (by decide)).mono ?_;rintro e w9 ⟨m',rfl,hm',hc9,g9⟩;have D9:=qH ((qU D8).turn g9 hc9);have r3:=(qU D9).bk.c3;have rf3:=(qU D9).bk.f 3;have DN:=qH ((qU D9).cell ((qU D9).bk.set3 (.string m')) ⟨(qU D9).bd.1,(qU D9).bd.2.1,by omega⟩);clear hm' hc9 g9 D8 D9 p0 p1 p2 p3 f0 f1 f2 f3;go_wp2_with fail
   go_meet
   exact⟨false,_,_,_,_,_,_,_,rfl,DN⟩
  have b0:(y == 0)=false:=by simpa using e0
  by_cases e1:y=1
  ·subst e1;have DN:=qH ((qU D8).cell ((qU D8).bk.set1 (.bool (!sat))) (qU D8).bd);clear D8;go_wp2_with fail
   go_meet
   exact⟨true,_,_,_,_,_,_,_,rfl,DN⟩
  have b1:(y == 1)=false:=by simpa using e1
  by_cases e2:y=2
  ·subst e2;have nb:¬ 9223372036854775807<b.size+4:=by have:=qU HBB;omega
   have DN:=qH ((qU D8).cell ((qU D8).bk.set2 (.string (b ++ ⟨#[49,32,48,10]⟩))) ⟨(qU D8).bd.1,by rw [ByteArray.size_append];have:=qU HBB;have e4:(⟨#[49,32,48,10]⟩:ByteArray).size=4:=rfl;omega,(qU D8).bd.2.2⟩);clear D8;go_wp2_with fail
   go_meet
   exact⟨true,_,_,_,_,_,_,_,rfl,DN⟩
  have b2:(y == 2)=false:=by simpa using e2
  by_cases e3:y=3
  ·subst e3;go_wp2_with fail;refine (dr.l09Cnf _ _ (qU D8).cur).mono ?_;rintro e w9 ⟨q2,v2,M2,rfl,hq2,hT2,⟨od2,gd2,cd2⟩⟩;obtain⟨va2,vc2,rfl⟩:=od2.len;have D9:=qH ((qU D8).turn gd2 cd2);have r0:=(qU D9).bf.c0;have r1:=(qU D9).bf.c1;have rf0:=(qU D9).bf.f 0;have rf1:=(qU D9).bf.f 1;have DN:=qH ((qU D8).form gd2 cd2 od2 ⟨hq2.2,hq2.1.2,hT2⟩);clear hq2 hT2 od2 gd2 cd2 D8 D9 p0 p1 p2 p3 f0 f1 f2 f3;go_wp2_with fail
   go_meet
   exact⟨false,_,_,_,_,_,_,_,rfl,DN⟩
  have b3:(y == 3)=false:=by simpa using e3
  by_cases e4:y=4
  ·subst e4;go_wp2_with fail;refine (zu.any c 32 _ (qU D8).cur (by decide)).mono ?_;rintro e w9 ⟨m',rfl,hm',hc9,g9⟩;have D9:=qH ((qU D8).turn g9 hc9);have r3:=(qU D9).bk.c0;have rf3:=(qU D9).bk.f 0;have DN:=qH ((qU D9).cell ((qU D9).bk.set0 (.string m')) ⟨by omega,(qU D9).bd.2.1,(qU D9).bd.2.2⟩);clear hm' hc9 g9 D8 D9 p0 p1 p2 p3 f0 f1 f2 f3;go_wp2_with fail
   go_meet
   exact⟨true,_,_,_,_,_,_,_,rfl,DN⟩
  have b4:(y == 4)=false:=by simpa using e4
  by_cases e5:y=5
  ·subst e5;have hlt:=(qU D8).cur.lt;have ST:=qH (MadeC.start c w8 (qU D8).cur);have hq25:=(qU D8).lows.2.1;clear p0 p1 p2 p3 f0 f1 f2 f3;go_wp2_with fail;go_loopw [11,12] (fun u i wr=>∃ X:List Int,X.length<=25/\i=.int .i64 (X.length:Nat)/\Hid (MadeC c w8 wr u X)) (fun _ i _=>25 - (intOf i).toNat)
   case atStart=>exact⟨[],Nat.zero_le _,rfl,ST⟩
   case round =>
    obtain⟨X,hX,rfl,hm⟩:=hrel;clear ST;have DX:=qH ((qU D8).turn (qU hm).2.1 (qU hm).2.2);have rn:=(qU DX).bf.c0;by_cases hlt':(X.length:Int)<q
    ·go_wp2_with fail;refine (draw.below c 2 _ (qU hm).2.2 (by decide) (by decide)).mono ?_;rintro e w2 ⟨y2,rfl,y0,y1,hc2,g2⟩;have HM2:=qH ((qU hm).turn hlt g2 hc2);clear hc2 g2 hm;go_wp2_with (at_builtin;refine appendC (qU HM2) hlt (by omega) rfl _ _ rfl rfl rfl ?_);intro v' w3 R;have RR:=qH R;clear HM2 R;go_wp2;go_roundw
     case rel=>exact⟨X++[y2],by rw [List.length_append];simp;omega,by rw [List.length_append];go_num,RR⟩
     case measure=>simp [intOf];omega
    ·obtain⟨xa,xc,hxv⟩:=(qU hm).form;subst hxv;have DS:=qH ((qU DX).cell ((qU DX).bk.set1 (.bool true)) (qU DX).bd);have p1:=(qU DX).bk.c1;have f1:=(qU DX).bk.f 1;have kbl:=(qU D8).bk.lt;have SX:=qH (sl.Sl.of_own ((qU hm).1.kept (sl.grown_setCell wr kb 1 (.bool true)) (.inr (fun e=>by have:=((qU hm).1.lt kb e).1;omega))));have CT:=qH (as_.specAssignText (.slice xa X.length xc) X _ (by omega) (qU SX));have hsz:=as_size X;unfold dec.str at CT;generalize as_.asText X=T at *;clear SX hm DX;go_wp2_with fail;refine (qU CT).mono ?_;rintro e w9 ⟨rfl,g9⟩;have D9:=qH ((qU DS).kept g9);have r2:=(qU D9).bk.c2
     have rf2:=(qU D9).bk.f 2;have DN:=qH ((qU D9).cell ((qU D9).bk.set2 (.string ⟨T.toArray⟩)) ⟨(qU D9).bd.1,by show T.toArray.size<=_;rw [List.size_toArray];omega,(qU D9).bd.2.2⟩);clear g9 CT DS D9 D8;go_wp2_with fail
     go_meet
     exact⟨true,_,_,_,_,_,_,_,rfl,DN⟩
  have b5:(y == 5)=false:=by simpa using e5
  by_cases e6:y=6
  ·subst e6;have D9:=qH ((qU D8).cell ((qU D8).bk.set1 (.bool false)) (qU D8).bd);have DN:=qH ((qU D9).cell ((qU D9).bk.set2 (.string ⟨#[48,10]⟩)) ⟨(qU D8).bd.1,by decide,(qU D8).bd.2.2⟩);clear D8 D9;go_wp2_with fail
   go_meet
   exact⟨true,_,_,_,_,_,_,_,rfl,DN⟩
  have b6:(y == 6)=false:=by simpa using e6
  clear e0 e1 e2 e3 e4 e5 e6;go_wp2_with fail
  go_meet
  exact⟨false,_,_,_,_,_,_,_,rfl,D8⟩
 case rest =>
  obtain⟨bs,q',v',M',d',sat',b',m',rfl,DD⟩:=hcut;clear D8;cases bs
  ·have O:=(qU DD).own;obtain⟨lo,hi,ow,_⟩:=O;obtain⟨va',vc',hva⟩:=ow.len;subst hva;have y0:=(qU DD).bf.c0;have y1:=(qU DD).bf.c1;have p0:=(qU DD).bk.c0;have p1:=(qU DD).bk.c1;have p2:=(qU DD).bk.c2;have p3:=(qU DD).bk.c3;have q0:=(qU DD).r3.c0;have q1:=(qU DD).r3.c1;have qf0:=(qU DD).r3.f 0;have qf1:=(qU DD).r3.f 1;have s0:=(qU DD).r4.c0;have s1:=(qU DD).r4.c1;have s2:=(qU DD).r4.c2;have s3:=(qU DD).r4.c3;have sf0:=(qU DD).r4.f 0;have sf1:=(qU DD).r4.f 1;have sf2:=(qU DD).r4.f 2;have sf3:=(qU DD).r4.f 3;have n1:¬ w.heap.size=kb:=by have h1:=(qU DD).hc;have h2:=(qU DD).hf;have h3:=(qU DD).hk;omega
   have n2:¬ w.heap.size=fb:=by have h1:=(qU DD).hc;have h2:=(qU DD).hf;have h3:=(qU DD).hk;omega
   have n3:¬ w.heap.size+1=kb:=by have h1:=(qU DD).hc;have h2:=(qU DD).hf;have h3:=(qU DD).hk;omega
   have n4:¬ w.heap.size+1=fb:=by have h1:=(qU DD).hc;have h2:=(qU DD).hf;have h3:=(qU DD).hk;omega
   clear ow;go_wp2_with fail
   go_region
   all_goals
    go_wp2_with fail
    (try simp only [Exit.inBlock,Exit.then])
    refine bodyPost_ret (ret_tcc rfl rfl rfl (((((((qU DD).r3.set0 _).set1 _).setO (d:=w.heap.size+1) (by omega)).setO (d:=w.heap.size+1) (by omega)).setO (d:=w.heap.size+1) (by omega)).setO (d:=w.heap.size+1) (by omega) |>.kept (cf.grown_drew _ none)) ((((qU DD).r4.setO (d:=w.heap.size) (by omega)).setO (d:=w.heap.size) (by omega)).setA _ _ _ _ |>.kept (cf.grown_drew _ none))) rfl ⟨k,qU HK,(qU DD).done (sl.grown_trans' (sl.grown_setCell _ _ _ _) (sl.grown_setCell _ _ _ _)) _ (sl.grown_trans' (sl.grown_trans' (sl.grown_trans' (sl.grown_trans' (sl.grown_setCell _ _ _ _) (sl.grown_setCell _ _ _ _)) (sl.grown_setCell _ _ _ _)) (sl.grown_setCell _ _ _ _)) (cf.grown_drew _ _))⟩
  ·have bd':=(qU DD).bd;have p0:=(qU DD).bk.c0;have p1:=(qU DD).bk.c1;have p2:=(qU DD).bk.c2;have p3:=(qU DD).bk.c3;have CG:=qH (yg.specSigned d' sat' b' m' wc (by omega) (by omega));have hsg:=yg.sg_size d' sat' b';have HB:Hid ((yg.sgB d' sat' b').size<=1048576):=by show _<=_;omega
   clear hsg;generalize yg.sgB d' sat' b'=S at *;have KB:Hid (k.size<=1048576):=by show _<=_;have:=qU HK;omega
   have CM:=qH (fun w9=>zr.specMac k S w9 (qU KB) (qU HB));have ml:(zr.macT k S).length<=32:=by
    unfold zr.macT
    split
    ·exact zr.sumT_len _
    ·simp
   unfold dec.str at CM;generalize zr.macT k S=T at *;clear HB KB bd';go_wp2_with fail;refine (qU CG).mono ?_;rintro e w9 ⟨rfl,g9⟩;have D9:=qH ((qU DD).kept g9);clear g9 CG p0 p1 p2 p3;go_wp2_with fail;refine (qU CM _).mono ?_;rintro e w10 ⟨rfl,g10⟩;have D10:=qH ((qU D9).kept g10);clear g10 CM D9;have r3:=(qU D10).bk.c3;have rf3:=(qU D10).bk.f 3;obtain⟨W11,hW11⟩:∃ W11,W11=w10.setCell ⟨kb,3,none⟩ (.string ⟨T.toArray⟩):=⟨_,rfl⟩;have DN:=qH ((qU D10).cell ((qU D10).bk.set3 (.string ⟨T.toArray⟩)) ⟨(qU D10).bd.1,(qU D10).bd.2.1,by show T.toArray.size<=_;rw [List.size_toArray];omega⟩);rw [←hW11] at DN
   clear D10 DD
   go_upto_region 35 with fail
   rw [←hW11];clear hW11 r3 rf3;have DD:=DN;clear DN;have O:=(qU DD).own;obtain⟨lo,hi,ow,_⟩:=O;obtain⟨va',vc',hva⟩:=ow.len;subst hva;have y0:=(qU DD).bf.c0;have y1:=(qU DD).bf.c1;have p0:=(qU DD).bk.c0;have p1:=(qU DD).bk.c1;have p2:=(qU DD).bk.c2;have p3:=(qU DD).bk.c3;have q0:=(qU DD).r3.c0;have q1:=(qU DD).r3.c1;have qf0:=(qU DD).r3.f 0;have qf1:=(qU DD).r3.f 1;have s0:=(qU DD).r4.c0;have s1:=(qU DD).r4.c1;have s2:=(qU DD).r4.c2;have s3:=(qU DD).r4.c3;have sf0:=(qU DD).r4.f 0;have sf1:=(qU DD).r4.f 1;have sf2:=(qU DD).r4.f 2;have sf3:=(qU DD).r4.f 3;have n1:¬ w.heap.size=kb:=by have h1:=(qU DD).hc;have h2:=(qU DD).hf;have h3:=(qU DD).hk;omega
   have n2:¬ w.heap.size=fb:=by have h1:=(qU DD).hc;have h2:=(qU DD).hf;have h3:=(qU DD).hk;omega
   have n3:¬ w.heap.size+1=kb:=by have h1:=(qU DD).hc;have h2:=(qU DD).hf;have h3:=(qU DD).hk;omega
   have n4:¬ w.heap.size+1=fb:=by have h1:=(qU DD).hc;have h2:=(qU DD).hf;have h3:=(qU DD).hk;omega
   clear ow;go_wp2_with fail
   go_region
   all_goals
    go_wp2_with fail
    (try simp only [Exit.inBlock,Exit.then])
    refine bodyPost_ret (ret_tcc rfl rfl rfl (((((((qU DD).r3.set0 _).set1 _).setO (d:=w.heap.size+1) (by omega)).setO (d:=w.heap.size+1) (by omega)).setO (d:=w.heap.size+1) (by omega)).setO (d:=w.heap.size+1) (by omega) |>.kept (cf.grown_drew _ none)) ((((qU DD).r4.setO (d:=w.heap.size) (by omega)).setO (d:=w.heap.size) (by omega)).setA _ _ _ _ |>.kept (cf.grown_drew _ none))) rfl ⟨k,qU HK,(qU DD).done (sl.grown_trans' (sl.grown_setCell _ _ _ _) (sl.grown_setCell _ _ _ _)) _ (sl.grown_trans' (sl.grown_trans' (sl.grown_trans' (sl.grown_trans' (sl.grown_setCell _ _ _ _) (sl.grown_setCell _ _ _ _)) (sl.grown_setCell _ _ _ _)) (sl.grown_setCell _ _ _ _)) (cf.grown_drew _ _))⟩
end ia
namespace yo
open da (digT)
open zr (okM)
open yg (sgB)
open ra (raB raL)
open tr (trueB)
open xe (checkB)
open rq (RP)
open yv (vfC)
open sl (Sl grown_refl grown_drewN)
theorem specVerify (key:ByteArray)(v:Value)(n:Int)(LL:List (List Int))(d:ByteArray)(sat:Bool)(b m:ByteArray)(O:Option (List (List Int)))(lo hi:Nat)(w:World)(hk:key.size<=1048576)(hn:tot LL<=1048576)(hv:OwnS lo hi w v LL)(hhi:hi<=w.heap.size)(hO:RP (rd.bytes b) O)(hd:d.size<=1048576)(hb:b.size<=1048576)(hdb:d.size+b.size<=1048576) :
  Calls Tryz.prog 13 #[.string key,.agg #[.int .i64 n,v],.agg #[.string d,.bool sat,.string b,.string m]] w fun e w'=>e=.returned (.int .i64 (vfC key n LL d sat b m O:Nat))/\w.grownBy w' none:=by
 have g0:=qT (sl.qA w (.cells #[.int .i64 n,v] 26) none) (sl.qA _ (.cells #[.string d,.bool sat,.string b,.string m] 30) none);have F0:=qH ((Box.new 26 w (.int .i64 n) v).kept (sl.qA _ (.cells #[.string d,.bool sat,.string b,.string m] 30) none));have B0:=Box4.new 30 (w.alloc (.cells #[.int .i64 n,v] 26)) (.string d) (.bool sat) (.string b) (.string m);rw [World.size_alloc] at B0;have HB0:=qH B0;have CG:=qH (fun w1=>yg.specSigned d sat b m w1 hd hb);have hsz:(sgB d sat b).size<=2097152:=by rw [yg.sg_size];omega
 have CM:=qH (fun w1=>zr.specMacOk2 key (sgB d sat b) m w1 hk hsz);have CD:=qH (fun w1 (g:w.grownBy w1 none)=>da.specDigest v n LL w1 hn (hv.kept g).sls);have CT:=qH (fun w1=>ra.specReadAssign b n w1 hb);have CF:=qH (fun w1=>yv.specRead hO hb w1);unfold rq.ListE at CF;have hra:=yv.ra_len (rd.bytes b) n;have hro:=yv.rp_tot hO;have HH:=qH (fun A (hA:A.length<=48) u w1 (g:w.grownBy w1 none) (hu:Sl w1 u A)=>tr.specCnfTrue v u n LL A w1 hn (by omega) (hv.kept g).sls hu);have HR:=qH (fun P (hP:tot P<=1048576) u lo2 hi2 w1 (g:w.grownBy w1 none) (hu:OwnS lo2 hi2 w1 u P)=>xe.specCheck v u n LL P lo hi lo2 hi2 w1 hn hP (hv.kept g) (Nat.le_trans hhi g.size) hu)
 have G0:=qH g0;obtain⟨W0,hW0⟩:∃ W0,W0=(w.alloc (.cells #[.int .i64 n,v] 26)).alloc (.cells #[.string d,.bool sat,.string b,.string m] 30):=⟨_,rfl⟩;rw [←hW0] at F0 HB0 G0;have hem:=da.empty_list (digT n LL);have hdq:((⟨(digT n LL).toArray⟩:ByteArray).toList)=digT n LL:=by rw [rd.toList_bytes];rfl
 have hdd:d.toList=rd.bytes d:=rd.toList_bytes d;unfold dec.str at CD;have HI:vfC key n LL d sat b m O=if okM key (sgB d sat b) m=false then 1
  else if digT n LL=[]∨rd.bytes d≠digT n LL then 2
  else if sat=true then (if raB (rd.bytes b) n=false then 3 else if trueB n LL (raL (rd.bytes b) n)=false then 4 else 0)
  else (if O.isSome=false then 3 else if checkB n LL (O.getD [])=false then 4 else 0):=rfl
 generalize vfC key n LL d sat b m O=K at *;generalize okM key (sgB d sat b) m=okm at *;generalize sgB d sat b=sg at *;generalize (⟨(digT n LL).toArray⟩:ByteArray)=D at *;generalize digT n LL=DT at *;generalize raL (rd.bytes b) n=A at *;generalize raB (rd.bytes b) n=okr at *;generalize O.isSome=okp at *;generalize O.getD []=P at *;have HIK:=qH HI;have HEM:=qH hem;have HDQ:=qH hdq;have HDD:=qH hdd;clear g0 B0 hO HI hem hdq hdd hsz hdb hd hb hv hhi;have x0:=(qU F0).c0;have x1:=(qU F0).c1;go_enter Tryz.func13,Tryz.ntmps13
 go_upto_region 1 with fail
 rw [←hW0];clear hW0;go_wp2_with fail;refine (qU CD _ (qU G0)).mono ?_;rintro e w2 ⟨rfl,g2⟩;have G2:=qH (qT (qU G0) g2);have F2:=qH ((qU F0).kept g2);have B2:=qH ((qU HB0).kept g2);clear g2 G0 F0 HB0 CD x0 x1
 go_upto_region 2 with fail
 have GX:=qH (grown_drewN w2 1);have CK:Hid (∀ w',w2.grownBy w' none->w'.cell? ⟨w.heap.size+1,0,none⟩=some (.string d)/\w'.cell? ⟨w.heap.size+1,1,none⟩=some (.bool sat)/\w'.cell? ⟨w.heap.size+1,2,none⟩=some (.string b)/\w'.cell? ⟨w.heap.size+1,3,none⟩=some (.string m)):=fun w' g=>⟨((qU B2).kept g).c0,((qU B2).kept g).c1,((qU B2).kept g).c2,((qU B2).kept g).c3⟩;obtain⟨k0,k1,k2,k3⟩:=qU CK _ (grown_refl _)
 go_region_held3 (fun w'=>w'.cell? ⟨w.heap.size+1,0,none⟩=some (.string d)/\w'.cell? ⟨w.heap.size+1,1,none⟩=some (.bool sat)/\w'.cell? ⟨w.heap.size+1,2,none⟩=some (.string b)/\w'.cell? ⟨w.heap.size+1,3,none⟩=some (.string m)) (go_keep) (first
  | (go_at_call 33;refine (qU CG _).mono ?_;rintro e w8 ⟨rfl,g8⟩;replace GX:=qH (qT (qU GX) g8);obtain⟨k0,k1,k2,k3⟩:=qU CK _ (qU GX);clear g8)
  | (go_at_call 42;refine (qU CM _).mono ?_;rintro e w9 ⟨rfl,g9⟩;replace GX:=qH (qT (qU GX) g9);obtain⟨k0,k1,k2,k3⟩:=qU CK _ (qU GX);clear g9))
 all_goals
  have G3:=qH (qT (qU G2) (qU GX));have F3:=qH ((qU F2).kept (qU GX));have B3:=qH ((qU B2).kept (qU GX));clear GX CK CM CG G2 F2 B2;clear k0 k1 k2 k3;cases okm
  ·have HV:Hid (K=1):=(qU HIK).trans (if_pos rfl);clear HIK;go_wp2_with fail;go_ret;exact⟨by rw [qU HV];rfl,qU G3⟩
  have hem:=qU HEM;cases hE:DT.isEmpty
  rotate_left
  ·rw [hE] at hem;have HV:Hid (K=2):=(qU HIK).trans ((if_neg (by decide)).trans (if_pos (.inl (List.isEmpty_iff.1 hE))));clear HIK hE;go_wp2_with fail;go_ret;exact⟨by rw [qU HV];rfl,qU G3⟩
  rw [hE] at hem;have y0:=(qU B3).c0;by_cases hq:rd.bytes d=DT
  rotate_left
  ·have hq':(D.toList == d.toList)=false:=by rw [qU HDQ,qU HDD,beq_eq_false_iff_ne];exact fun e=>hq e.symm
   have HV:Hid (K=2):=(qU HIK).trans ((if_neg (by decide)).trans (if_pos (.inr hq)));clear HIK hE hq;go_wp2_with fail;go_ret;exact⟨by rw [qU HV];rfl,qU G3⟩
  have hq':(D.toList == d.toList)=true:=by rw [qU HDQ,qU HDD,hq];exact beq_self_eq_true _
  have HK2:Hid (K=if sat=true then (if okr=false then 3 else if trueB n LL A=false then 4 else 0) else (if okp=false then 3 else if checkB n LL P=false then 4 else 0)):=(qU HIK).trans ((if_neg (by decide)).trans (if_neg (fun h=>by rcases h with h | h;rw [h] at hE;cases hE;exact h hq)));clear HIK hE hq;have y1:=(qU B3).c1;have y2:=(qU B3).c2;have y3:=(qU B3).c3;have x0:=(qU F3).c0;cases sat
  ·have HK3:Hid (K=if okp=false then 3 else if checkB n LL P=false then 4 else 0):=(qU HK2).trans (if_neg (by decide));clear HK2 CT HH;go_wp2_with fail;refine (qU CF _).mono ?_;rintro e w4 ⟨r,rfl,o4,g4⟩;obtain⟨a,c,rfl⟩:=o4.len;have G4:=qH (qT (qU G3) g4);have F4:=qH ((qU F3).kept g4);have O4:=qH o4;clear g4 o4 G3 F3 B3 CF x0 y0 y1 y2 y3 hem hq';cases okp
   ·have HV:Hid (K=3):=(qU HK3).trans (if_pos rfl);clear HK3;go_wp2_with fail;go_ret;exact⟨by rw [qU HV];rfl,qU G4⟩
   have x0:=(qU F4).c0;have x1:=(qU F4).c1;have CH:=qH (qU HR P hro _ _ _ w4 (qU G4) (qU O4));have HK4:Hid (K=if checkB n LL P=false then 4 else 0):=(qU HK3).trans (if_neg (by decide));clear HK3 HR O4;generalize checkB n LL P=okc at *;go_wp2_with fail;refine (qU CH).mono ?_;rintro e w5 ⟨rfl,g5⟩;have G5:=qH (qT (qU G4) g5);clear g5 G4 F4 CH x0 x1;cases okc
   ·have HV:Hid (K=4):=(qU HK4).trans (if_pos rfl);clear HK4;go_wp2_with fail;go_ret;exact⟨by rw [qU HV];rfl,qU G5⟩
   have HV:Hid (K=0):=(qU HK4).trans (if_neg (by decide));clear HK4;go_wp2_with fail;go_ret;exact⟨by rw [qU HV];rfl,qU G5⟩
  ·have HK3:Hid (K=if okr=false then 3 else if trueB n LL A=false then 4 else 0):=(qU HK2).trans (if_pos rfl);clear HK2 CF HR;go_wp2_with fail;refine (qU CT _).mono ?_;rintro e w4 ⟨u,rfl,m4⟩;obtain⟨a,c,eu,_⟩:=sl.Sl.of_own m4.1;subst eu;have G4:=qH (qT (qU G3) m4.2);have F4:=qH ((qU F3).kept m4.2);have O4:=qH (sl.Sl.of_own m4.1);clear m4 G3 F3 B3 CT x0 y0 y1 y2 y3 hem hq';cases okr
   ·have HV:Hid (K=3):=(qU HK3).trans (if_pos rfl);clear HK3;go_wp2_with fail;go_ret;exact⟨by rw [qU HV];rfl,qU G4⟩
   have x0:=(qU F4).c0;have x1:=(qU F4).c1;have CH:=qH (qU HH A hra _ w4 (qU G4) (qU O4));have HK4:Hid (K=if trueB n LL A=false then 4 else 0):=(qU HK3).trans (if_neg (by decide));clear HK3 HH O4;generalize trueB n LL A=okc at *;go_wp2_with fail;refine (qU CH).mono ?_;rintro e w5 ⟨rfl,g5⟩;have G5:=qH (qT (qU G4) g5);clear g5 G4 F4 CH x0 x1;cases okc
   ·have HV:Hid (K=4):=(qU HK4).trans (if_pos rfl);clear HK4;go_wp2_with fail;go_ret;exact⟨by rw [qU HV];rfl,qU G5⟩
   have HV:Hid (K=0):=(qU HK4).trans (if_neg (by decide));clear HK4;go_wp2_with fail;go_ret;exact⟨by rw [qU HV];rfl,qU G5⟩
end yo
namespace ys
open css (Sls)
open yo (Env)
open yi (Tabs)
open lq (solveL)
theorem certStood:Tryz.prog.stoodInHeld 30=false:=by kernel_rfl
theorem certGuard:Tryz.prog.eqGuardType Tryz.prog.depth 30=false:=by kernel_rfl
theorem told {key:ByteArray}{n:Int}{LL:List (List Int)}(hk:key.size<=65)(hl:ia.Lows n LL):∃ (d:ByteArray) (sat:Bool) (b m:ByteArray) (ok:Bool),
  (∀ v w,Tabs w->Sls w v LL->Calls Tryz.prog 8 #[.string key,.agg #[.int .i64 n,v]] w fun e w'=>e=.returned (.tuple #[.agg #[.string d,.bool sat,.string b,.string m],.bool ok])/\w.grownBy w' none) /\
  (∀ v w,Sls w v LL->Calls Tryz.prog 9 #[.string key,.agg #[.int .i64 n,v]] w fun e w'=>e=.returned (.tuple #[.agg #[.string d,.bool sat,.string b,.string m],.bool ok])/\w.grownBy w' none) /\
  (ok=true->(∀ v w,(∃ a1 a2 a3 a4,Env w a1 a2 a3 a4)->Sls w v LL->Calls Tryz.prog 10 #[.string key,.agg #[.int .i64 n,v],.agg #[.string d,.bool sat,.string b,.string m]] w fun e w'=>e=.returned (.int .i64 0)/\w.grownBy w' none) /\
   (∀ v w,Tabs w->Sls w v LL->Calls Tryz.prog 11 #[.agg #[.int .i64 n,v]] w fun e w'=>e=.returned (.string d)/\w.grownBy w' none)):=by
 obtain⟨d,sat,b,m,ok,hc,hs,bd,bm,bb⟩:=ia.iss_bd key n LL;have ht:=hl.2.2;refine⟨d,sat,b,m,ok,fun v w hT hv=>?_,fun v w hv=>?_,fun hok=>?_⟩
 ·have:=yi.implIssue key v n LL w (by omega) hT ht hv;unfold yb.CertE at this;rw [hc,hs] at this;exact this
 ·have:=yi.specIssue key v n LL w (by omega) ht hv;unfold yb.CertE at this;rw [hc,hs] at this;exact this
 ·rw [hok] at hs;obtain⟨⟨d',sat',b',m'⟩,hi⟩:=Option.isSome_iff_exists.1 hs;rw [hi] at hc;simp only [yb.cellsC,Array.mk.injEq,List.cons.injEq,Value.string.injEq,Value.bool.injEq,and_true] at hc;obtain⟨rfl,rfl,rfl,rfl⟩:=hc;obtain⟨hcnf,hb⟩:=short_few hi (fun q=>few_of q hl.1);obtain⟨O,hO⟩:=yv.rp_ex b';have hv0:=issued hi hb hO;refine⟨fun v w hE hs=>?_,fun v w hT hs=>?_⟩
  ·obtain⟨a1,a2,a3,a4,hE⟩:=hE;have:=yo.implVerify key v n LL d' sat' b' m' O w (by omega) hE ht hs hO (by omega) (by omega) (by omega);rw [hv0] at this;exact this
  ·have:=da.implDigest v n LL w hT.tab hT.pow hT.k hT.s ht hs;obtain⟨_,_,_,h4⟩:=iss_parts hi;simp only [Prod.mk.injEq] at h4;rw [h4.1];exact this
theorem told2 {key:ByteArray}{n:Int}{LL:List (List Int)}{d b m:ByteArray}{sat:Bool}(hk:key.size<=65)(ht:tot LL<=1048576)(bd:d.size<=1024)(bb:b.size<=400100):∃ (r:Int) (ok:Bool),(r=0->ok=sat) /\
  (∀ v w,(∃ a1 a2 a3 a4,Env w a1 a2 a3 a4)->Sls w v LL->Calls Tryz.prog 10 #[.string key,.agg #[.int .i64 n,v],.agg #[.string d,.bool sat,.string b,.string m]] w fun e w'=>e=.returned (.int .i64 r)/\w.grownBy w' none) /\
  (∀ v lo hi w,OwnS lo hi w v LL->hi<=w.heap.size->Calls Tryz.prog 13 #[.string key,.agg #[.int .i64 n,v],.agg #[.string d,.bool sat,.string b,.string m]] w fun e w'=>e=.returned (.int .i64 r)/\w.grownBy w' none) /\
  (∀ v w,Sls w v LL->Calls Tryz.prog 14 #[.agg #[.int .i64 n,v]] w fun e w'=>∃ u,e=.returned (.tuple #[u,.bool ok])/\w.grownBy w' none):=by
 obtain⟨O,hO⟩:=yv.rp_ex b;refine⟨(yv.vfC key n LL d sat b m O:Nat),(solveL n LL []).isSome,fun h=>truth (key:=key) (d:=d) (b:=b) (m:=m) (O:=O) (by omega),fun v w hE hs=>?_,fun v lo hi w ho hh=>?_,fun v w hs=>?_⟩
 ·obtain⟨a1,a2,a3,a4,hE⟩:=hE;exact yo.implVerify key v n LL d sat b m O w (by omega) hE ht hs hO (by omega) (by omega) (by omega)
 ·exact yo.specVerify key v n LL d sat b m O lo hi w (by omega) ht ho hh hO (by omega) (by omega) (by omega)
 ·refine (lq.specSolve v n LL w ht hs).mono ?_;intro e w' h;obtain⟨r,rfl,hm⟩:=h;exact⟨r,rfl,hm.2⟩
end ys
end Go.Proofs.YtddmmoehlabkiaaGreatDoor
