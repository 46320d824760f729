/- What the model's l06False draws: a right formula of at most five variables; no condition but that the cursor is one. -/
import Derived.Test.YtddmmoehlabkiaaGreatDoorJOd
import Derived.Test.YtddmmoehlabkiaaGreatDoorJOr
namespace Go.Proofs.YtddmmoehlabkiaaGreatDoor
set_option linter.unusedVariables false
set_option maxRecDepth 100000
open Go.ChangeShapes Go.WideShapes Go.ChangeAt Go.RowKit
open draw (Cur)
open dcn (Drawn)
open css (tot)
open sl (qH qU qT)
set_option maxHeartbeats 8000000
namespace dr
open dcn (MidD good midD_of)
open ok (cnfB litIn)
open lits (okB okB_iff)
open sp (negL)
open as_ (tl tl_len)
open lq (solveL)
open wo (Made)
open sl (Sl Own ints)
theorem some_of {w w':World}{r:Option Nat}(g:w.grownBy w' none):w.grownBy w' r:=⟨g.os,g.tape,g.output,g.size,fun k hk _=>g.block k hk nofun⟩
theorem good_cnf {n:Int}{M:List (List Int)}(h:1<=n/\n<=6)(hl:(M.length:Int)<=4*n+2)(hg:M.all (good n)=true):cnfB n M=true:=by
 unfold ok.cnfB;rw [decide_eq_true (by omega),decide_eq_true (by omega),Bool.true_and,Bool.true_and,List.all_eq_true];intro L hL;have:=List.all_eq_true.1 hg L hL;unfold dcn.good at this;rw [Bool.and_eq_true,decide_eq_true_iff,List.all_eq_true] at this;unfold ok.clB;rw [Bool.and_eq_true,decide_eq_true_iff,List.all_eq_true];refine⟨fun x hx=>?_,by omega⟩;have q:=this.2 x hx;rw [decide_eq_true_iff] at q;have ho:lits.okB x=true:=by rw [lits.okB_iff];omega
 unfold ok.litIn;rw [ho,Bool.true_and,decide_eq_true_iff];unfold lits.varI;rw [ho,if_pos rfl]
 split <;> omega
theorem cnf_snoc {n:Int}{M:List (List Int)}{L:List Int}(h:cnfB n M=true)(hM:M.length<120)(hL:L.length<=48)(hl:∀ x∈L,litIn n x=true):cnfB n (M++[L])=true:=by
 unfold ok.cnfB at *;simp only [Bool.and_eq_true,decide_eq_true_iff] at *;obtain⟨⟨h1,h2⟩,h3⟩:=h;refine⟨⟨h1,by rw [List.length_append,List.length_singleton];omega⟩,?_⟩;rw [List.all_append,h3,Bool.true_and];simp only [List.all_cons,List.all_nil,Bool.and_true];unfold ok.clB;rw [Bool.and_eq_true,List.all_eq_true,decide_eq_true_iff];exact⟨hl,hL⟩
theorem tot48 {n:Int}{M:List (List Int)}(h:cnfB n M=true):tot M<=1048576:=by
 have hl:∀ L∈M,L.length<=48:=by
  intro L hL;unfold ok.cnfB at h;simp only [Bool.and_eq_true,decide_eq_true_iff] at h;have:=List.all_eq_true.1 h.2 L hL;unfold ok.clB at this;rw [Bool.and_eq_true,decide_eq_true_iff] at this;exact this.2
 have hm:M.length<=120:=by
  unfold ok.cnfB at h;simp only [Bool.and_eq_true,decide_eq_true_iff] at h;exact h.1.2
 have hs:(M.map List.length).sum<=48*M.length:=by
  clear h hm
  induction M with
  | nil=>simp
  | cons L M ih =>
   have h1:=hl L (List.mem_cons_self ..);have h2:=ih (fun K hK=>hl K (List.mem_cons_of_mem _ hK));simp only [List.map_cons,List.sum_cons,List.length_cons];omega
 unfold css.tot;unfold css.sumLen at *;omega
theorem neg_lits {n:Int}{M:List (List Int)}{A:List Int}(h:solveL n M []=some A):A.length<=24/\(A.length:Int)=n/\(∀ x∈tl 0 A,okB x=true)/\∀ x∈negL (tl 0 A),litIn n x=true:=by
 unfold lq.solveL at h
 split at h
 ·rename_i hc
  rw [Bool.and_eq_true] at hc;have hb:=(lq.lst_some h).1;have hn:0<=n/\n<=24:=by
   have:=hc.1;unfold ok.cnfB at this;simp only [Bool.and_eq_true,decide_eq_true_iff] at this;exact this.1.1
  have hl:(A.length:Int)=n:=by rw [hb.1];omega
  have hat:∀ x∈tl 0 A,∃ i,i<A.length/\(x=(i:Int)+1∨x = -(i:Int) - 1):=by
   intro x hx;obtain⟨i,hi,e⟩:=List.getElem_of_mem hx;rw [tl_len] at hi;have e1:=qm.tl_getD A 0 i hi;rw [show (tl 0 A).getD i 0=(tl 0 A)[i] by simp [tl_len,hi],e,Nat.zero_add] at e1;refine⟨i,hi,?_⟩;rw [e1];unfold as_.litAt
   split
   ·exact .inl rfl
   ·exact .inr rfl
  refine⟨by omega,hl,fun x hx=>?_,fun x hx=>?_⟩
  ·obtain⟨i,hi,q⟩:=hat x hx;rw [okB_iff];omega
  ·obtain⟨y,hy,rfl⟩:=List.mem_map.1 hx;obtain⟨i,hi,q⟩:=hat y hy;have ho:okB (-y)=true:=by rw [okB_iff];omega
   unfold ok.litIn;rw [ho,Bool.true_and,decide_eq_true_iff,lits.varI_yes (okB_iff.1 ho)]
   split <;> omega
 ·cases h
def FalseE (c:Nat)(w:World)(e:Ending)(w':World):Prop:=∃ (n:Int) (v:Value) (M:List (List Int)),e=.returned (.agg #[.int .i64 n,v])/\(1<=n/\n<=5)/\cnfB n M=true/\Drawn c w w' v M
theorem false_ (c:Nat)(w:World)(hc:Cur w c) :
  Calls Tryz.prog 52 #[.pointer (some ⟨c,0,none⟩)] w fun e w'=>FalseE c w e w':=by
 have hlt:=hc.lt;have C0:=qH (dcn.cnf c 5 _ (hc.kept (sl.qA w (.cells #[.int .i64 0,.slice none 0 0] 26) none) nofun) (by decide) (by decide));clear hc;go_enter Tryz.func52,Tryz.ntmps52;go_wp2_with fail;refine (qU C0).mono ?_;rintro e w1 ⟨n,v,M0,rfl,hn5,hl,hg,hd⟩;obtain⟨va,vc,rfl⟩:=hd.1.len;have ST:Hid (MidD c w (w1.alloc (.cells #[.int .i64 n,.slice va M0.length vc] 26)) w1.heap.size n M0 [(w.heap.size,.int .i64 0,.slice none 0 0)] w1.heap.size/\cnfB n M0=true/\M0.length<=22+0):=⟨midD_of hlt hd,good_cnf ⟨hn5.1,by omega⟩ hl hg,by omega⟩;clear hl hg hd C0;go_wp2_with fail
 generalize w1.alloc (.cells #[.int .i64 n,.slice va M0.length vc] 26)=W1 at *;generalize w1.heap.size=b at *;go_loopw [4] (fun iv wr=>∃ (j:Nat) (M:List (List Int)) (hi:Nat),j<=40/\iv=.int .i64 (j:Int)/\Hid (MidD c w wr b n M [(w.heap.size,.int .i64 0,.slice none 0 0)] hi/\cnfB n M=true/\M.length<=22+j)) (fun iv _=>40 - (intOf iv).toNat)
 case atStart=>exact⟨0,M0,_,Nat.zero_le _,rfl,ST⟩
 case round =>
  obtain⟨j,M,hi,hj,rfl,hw⟩:=hrel;clear ST;have HCN:=qH (qU hw).2.1;by_cases hlt40:j<40
  ·have hjI:(j:Int)<40:=by omega
   have HW:=hw;obtain⟨qb,qc,qg,qcur,qh,qB,oa,ocap,bx,ho⟩:=(qU hw).1;have CV:=qH (lq.specSolve (.slice oa M.length ocap) n M wr (tot48 (qU hw).2.1) ho.sls);have c0:=bx.c0;have c1:=bx.c1;have hcl:c<wr.heap.size:=qcur.lt;have hsz:=qg.size;have HSZ:=qH (And.intro hsz qh);clear qb qc qg qcur qh qB bx ho;go_wp2_with fail;refine (qU CV).mono ?_;rintro e w2 ⟨r,rfl,m2⟩;have cur2:=((qU hw).1.cur.kept m2.2 nofun);have MD2:=(qU hw).1.turn (some_of m2.2) cur2;have NL:Hid (∀ A,solveL n M []=some A->A.length<=24/\(A.length:Int)=n/\(∀ x∈tl 0 A,okB x=true)/\∀ x∈negL (tl 0 A),litIn n x=true):=fun A h=>neg_lits h
   cases hsv:solveL n M []
   ·have MR:=qH MD2;clear hsv m2 MD2 cur2 CV c0 c1 NL hw HW hsz HSZ;obtain⟨qb,qc,qg,qcur,qh,qB,oa,ocap,bx,ho⟩:=qU MR;have br:=(qB _ (List.mem_singleton.2 rfl)).2.2;have FN:=qH (And.intro (qU HCN) (Drawn.stored hlt qg qcur qh ho br n));have BR:=qH br;have c0:=bx.c0;have c1:=bx.c1;have r0:=br.c0;have r1:=br.c1;have f0:=br.f 0;have f1:=br.f 1;clear qb qc qg qcur qh qB bx ho br MR;go_wp2_with fail
    (try simp only [Exit.inBlock,Exit.then])
    exact bodyPost_ret (cf.ret_box rfl rfl (((qU BR).set0 (.int .i64 n)).set1 (.slice oa M.length ocap))) rfl ⟨n,_,M,rfl,hn5,(qU FN).1,(qU FN).2⟩
   ·rename_i A
    rw [hsv] at m2;have m2':Made wr w2 r A:=m2;obtain⟨n24,nlen,nok,nlit⟩:=qU NL A hsv;obtain⟨ra,rc,er,_⟩:=Sl.of_own m2'.1;subst er;have M2:=qH MD2;have MA:=qH m2';have CO:=qH (draw.once c 30 w2 cur2 (by decide) (by decide));have NOK:=qH nok;have NLT:=qH nlit;have hs2:=qH m2'.2.size;clear hsv m2 m2' MD2 cur2 CV c0 c1 NL hw nok nlit;go_wp2_with fail;refine (qU CO).mono ?_;rintro e w3 ⟨b1,rfl,cur3,g3⟩;have M3:=qH ((qU M2).turn g3 cur3);have A3:=qH ((qU MA).1.kept g3 (by right;intro e;have:=((qU MA).1.lt c e).1;omega));have hs3:=qH g3.size;clear CO M2 cur3 g3 MA;cases b1
    ·have CL:=qH (as_.l03Lits (.slice ra A.length rc) A w3 (by omega) (Sl.of_own (qU A3)));go_wp2_with fail;refine (qU CL).mono ?_;rintro e w4 ⟨u4,rfl,m4⟩;have CP:=qH (sp.l04Opposite u4 (tl 0 A) w4 (by rw [tl_len];omega) (qU NOK) (Sl.of_own m4.1));have M4:=qH ((qU M3).turn (some_of m4.2) ((qU M3).cur.kept m4.2 nofun));have hs4:=qH m4.2.size;clear CL M3 A3 m4;go_wp2_with fail;refine (qU CP).mono ?_;rintro e w5 ⟨u5,rfl,m5⟩;have hnl:(negL (tl 0 A)).length=A.length:=by unfold sp.negL;rw [List.length_map,tl_len]
     have M5:=qH ((qU M4).turn (some_of m5.2) ((qU M4).cur.kept m5.2 nofun));have o5:=m5.1;rw [hnl] at o5;obtain⟨ua,uc,eu⟩:=ks.row_form o5;subst eu;have O5:=qH o5;have LO:Hid (w.heap.size<=w4.heap.size/\hi<=w4.heap.size/\w4.heap.size<=w5.heap.size):=by
      have h1:=qU HSZ;have h2:=qU hs2;have h3:=qU hs3;have h4:=qU hs4;exact⟨by omega,by omega,m5.2.size⟩
     have HNL:=qH hnl;clear CP M4 m5 o5 hnl hs2 hs3 hs4;by_cases h2:2<A.length
     ·have h2I:(A.length:Int) > 2:=by omega
      have CT:=qH (draw.once c 2 w5 (qU M5).cur (by decide) (by decide));go_wp2_with fail;refine (qU CT).mono ?_;rintro e wx ⟨b2,rfl,cur6,g6⟩;have MX:=qH ((qU M5).turn g6 cur6);have OX:=qH ((qU O5).kept g6 (by right;intro e;have:=((qU O5).lt c e).1;have:=(qU LO).1;omega));obtain⟨lo5,hlo5⟩:∃ lo5,lo5=w4.heap.size:=⟨_,rfl⟩;have LO5:Hid (w.heap.size<=lo5/\hi<=lo5/\lo5<=wx.heap.size):=by
       have h1:=qU LO;have h2:=g6.size;exact⟨by omega,by omega,by omega⟩
      rw [←hlo5] at OX;clear CT M5 O5 cur6 g6 LO hlo5;cases b2
      ·have LLN:Hid ((negL (tl 0 A)).length<=48/\∀ x∈negL (tl 0 A),litIn n x=true):=⟨by rw [qU HNL];omega,qU NLT⟩;obtain⟨qb,qc,qg,qcur,qh,qB,oa,ocap,bx,ho⟩:=qU MX;have hlo:w.heap.size<=lo5:=(qU LO5).1;have ho':=qH (ho.sub (hi':=lo5) (Nat.le_refl _) (qU LO5).2.1);have OU:=qH (show Own lo5 wx.heap.size wx (.slice ua A.length uc) (negL (tl 0 A)) from sl.Own.of (by rw [qU HNL];exact qU OX));have HMD:=qH (qU LO5).2.2;have HS:=qH (fun (g' cap':Nat) (w9:World) h1 g1=>MidD.step (u:=(.slice ua A.length uc)) (L:=(negL (tl 0 A))) (g:=g') (cap':=cap') (w1:=w9) qb qc qg qcur qB bx (qU ho') h1 g1);have hMl:M.length<=1048576:=by have:=(qU HW).2.2;omega
       have b1:=bx.c1;have neb:=World.new_ne wx _ b1;have b1A:=(bx.kept (sl.qA wx (.cells #[(.slice ua A.length uc)] 37) none)).c1;have CN:=qH (cnf_snoc (L:=(negL (tl 0 A))) (qU HW).2.1 (by have:=(qU HW).2.2;omega) (qU LLN).1 (qU LLN).2);have MLn:=qH (qU HW).2.2;clear qg qcur qB ho bx MX LO5 LLN HW HCN;go_wp2_with (at_builtin;refine gr.appendR (qU ho') (qU OU) hlo (qU HMD) hMl rfl _ _ rfl rfl rfl ?_);intro g' cap' w9 h1 g1;obtain⟨⟨s1,s2⟩,m9⟩:=qU HS g' cap' w9 h1 g1;have M9:=qH m9;clear h1 g1 m9 HS ho' OU HMD b1 neb b1A;go_wp2_with fail;go_roundw
       case rel=>exact⟨j+1,M++[(negL (tl 0 A))],_,by omega,by go_num,qU M9,qU CN,by rw [List.length_append,List.length_singleton];have:=qU MLn;omega⟩
       case measure=>simp [intOf];omega
      ·have LLN:Hid (((negL (tl 0 A)).take 2).length<=48/\∀ x∈(negL (tl 0 A)).take 2,litIn n x=true):=⟨by rw [List.length_take];omega,fun x hx=>qU NLT x (List.mem_of_mem_take hx)⟩;obtain⟨g0,hcap,eua,OX2⟩:∃ g0,A.length<=uc/\ua=some ⟨g0,0,none⟩/\Hid (wx.ownsRow lo5 3 1 (.slice (some ⟨g0,0,none⟩) 2 uc) 2 ((ints (negL (tl 0 A))).take 2)):=by
        have ox:=qU OX;rcases ox.2 with ⟨e,h0⟩ | ⟨g,cap',cur,e,hg,_,hcp,_⟩
        ·omega
        ·injection e with e1 e2 e3;subst e1;exact⟨g,by omega,rfl,qw.own_take ox (by omega)⟩
       subst eua;have hc2:(2:Int)<=(uc:Int):=by omega
       have hl2:((negL (tl 0 A)).take 2).length=2:=by rw [List.length_take,qU HNL];omega
       have e2:ints ((negL (tl 0 A)).take 2)=(ints (negL (tl 0 A))).take 2:=by unfold sl.ints;rw [List.map_take]
       have OY:Hid (wx.ownsRow lo5 3 1 (.slice (some ⟨g0,0,none⟩) 2 uc) ((negL (tl 0 A)).take 2).length (ints ((negL (tl 0 A)).take 2))):=by
        show wx.ownsRow _ _ _ _ _ _;rw [hl2,e2];exact qU OX2
       clear OX OX2 hl2 e2;obtain⟨qb,qc,qg,qcur,qh,qB,oa,ocap,bx,ho⟩:=qU MX;have hlo:w.heap.size<=lo5:=(qU LO5).1;have ho':=qH (ho.sub (hi':=lo5) (Nat.le_refl _) (qU LO5).2.1);have OU:=qH (show Own lo5 wx.heap.size wx (.slice (some ⟨g0,0,none⟩) 2 uc) ((negL (tl 0 A)).take 2) from sl.Own.of (qU OY));have HMD:=qH (qU LO5).2.2;have HS:=qH (fun (g' cap':Nat) (w9:World) h1 g1=>MidD.step (u:=(.slice (some ⟨g0,0,none⟩) 2 uc)) (L:=((negL (tl 0 A)).take 2)) (g:=g') (cap':=cap') (w1:=w9) qb qc qg qcur qB bx (qU ho') h1 g1);have hMl:M.length<=1048576:=by have:=(qU HW).2.2;omega
       have b1:=bx.c1;have neb:=World.new_ne wx _ b1;have b1A:=(bx.kept (sl.qA wx (.cells #[(.slice (some ⟨g0,0,none⟩) 2 uc)] 37) none)).c1;have CN:=qH (cnf_snoc (L:=((negL (tl 0 A)).take 2)) (qU HW).2.1 (by have:=(qU HW).2.2;omega) (qU LLN).1 (qU LLN).2);have MLn:=qH (qU HW).2.2;clear qg qcur qB ho bx MX LO5 LLN HW HCN;go_wp2_with (at_builtin;refine gr.appendR (qU ho') (qU OU) hlo (qU HMD) hMl rfl _ _ rfl rfl rfl ?_);intro g' cap' w9 h1 g1;obtain⟨⟨s1,s2⟩,m9⟩:=qU HS g' cap' w9 h1 g1;have M9:=qH m9;clear h1 g1 m9 HS ho' OU HMD b1 neb b1A;go_wp2_with fail;go_roundw
       case rel=>exact⟨j+1,M++[((negL (tl 0 A)).take 2)],_,by omega,by go_num,qU M9,qU CN,by rw [List.length_append,List.length_singleton];have:=qU MLn;omega⟩
       case measure=>simp [intOf];omega
     ·have h2I:¬ (A.length:Int) > 2:=by omega
      have MX:=M5;obtain⟨wx,hwx⟩:∃ wx,wx=w5:=⟨_,rfl⟩;rw [←hwx] at MX O5 LO;subst hwx;obtain⟨lo5,hlo5⟩:∃ lo5,lo5=w4.heap.size:=⟨_,rfl⟩;rw [←hlo5] at O5 LO;have LO5:=LO;have LLN:Hid ((negL (tl 0 A)).length<=48/\∀ x∈negL (tl 0 A),litIn n x=true):=⟨by rw [qU HNL];omega,qU NLT⟩;clear hlo5 M5;obtain⟨qb,qc,qg,qcur,qh,qB,oa,ocap,bx,ho⟩:=qU MX;have hlo:w.heap.size<=lo5:=(qU LO5).1;have ho':=qH (ho.sub (hi':=lo5) (Nat.le_refl _) (qU LO5).2.1);have OU:=qH (show Own lo5 wx.heap.size wx (.slice ua A.length uc) (negL (tl 0 A)) from sl.Own.of (by rw [qU HNL];exact qU O5));have HMD:=qH (qU LO5).2.2;have HS:=qH (fun (g' cap':Nat) (w9:World) h1 g1=>MidD.step (u:=(.slice ua A.length uc)) (L:=(negL (tl 0 A))) (g:=g') (cap':=cap') (w1:=w9) qb qc qg qcur qB bx (qU ho') h1 g1)
      have hMl:M.length<=1048576:=by have:=(qU HW).2.2;omega
      have b1:=bx.c1;have neb:=World.new_ne wx _ b1;have b1A:=(bx.kept (sl.qA wx (.cells #[(.slice ua A.length uc)] 37) none)).c1;have CN:=qH (cnf_snoc (L:=(negL (tl 0 A))) (qU HW).2.1 (by have:=(qU HW).2.2;omega) (qU LLN).1 (qU LLN).2);have MLn:=qH (qU HW).2.2;clear qg qcur qB ho bx MX LO5 LLN HW HCN;go_wp2_with (at_builtin;refine gr.appendR (qU ho') (qU OU) hlo (qU HMD) hMl rfl _ _ rfl rfl rfl ?_);intro g' cap' w9 h1 g1;obtain⟨⟨s1,s2⟩,m9⟩:=qU HS g' cap' w9 h1 g1;have M9:=qH m9;clear h1 g1 m9 HS ho' OU HMD b1 neb b1A;go_wp2_with fail;go_roundw
      case rel=>exact⟨j+1,M++[(negL (tl 0 A))],_,by omega,by go_num,qU M9,qU CN,by rw [List.length_append,List.length_singleton];have:=qU MLn;omega⟩
      case measure=>simp [intOf];omega
    ·have MR:=M3;clear M3 A3 NOK NLT HSZ HW hs2 hs3;obtain⟨qb,qc,qg,qcur,qh,qB,oa,ocap,bx,ho⟩:=qU MR;have br:=(qB _ (List.mem_singleton.2 rfl)).2.2;have FN:=qH (And.intro (qU HCN) (Drawn.stored hlt qg qcur qh ho br n));have BR:=qH br;have c0:=bx.c0;have c1:=bx.c1;have r0:=br.c0;have r1:=br.c1;have f0:=br.f 0;have f1:=br.f 1;clear qb qc qg qcur qh qB bx ho br MR;go_wp2_with fail
     (try simp only [Exit.inBlock,Exit.then])
     exact bodyPost_ret (cf.ret_box rfl rfl (((qU BR).set0 (.int .i64 n)).set1 (.slice oa M.length ocap))) rfl ⟨n,_,M,rfl,hn5,(qU FN).1,(qU FN).2⟩
  ·have hjI:¬ (j:Int)<40:=by omega
   have MR:=qH (qU hw).1;clear hw;obtain⟨qb,qc,qg,qcur,qh,qB,oa,ocap,bx,ho⟩:=qU MR;have br:=(qB _ (List.mem_singleton.2 rfl)).2.2;have FN:=qH (And.intro (qU HCN) (Drawn.stored hlt qg qcur qh ho br n));have BR:=qH br;have c0:=bx.c0;have c1:=bx.c1;have r0:=br.c0;have r1:=br.c1;have f0:=br.f 0;have f1:=br.f 1;clear qb qc qg qcur qh qB bx ho br MR;go_wp2_with fail
   (try simp only [Exit.inBlock,Exit.then])
   exact bodyPost_ret (cf.ret_box rfl rfl (((qU BR).set0 (.int .i64 n)).set1 (.slice oa M.length ocap))) rfl ⟨n,_,M,rfl,hn5,(qU FN).1,(qU FN).2⟩
end dr
namespace df
open dcn (Bd)
theorem tot_bd {n:Int}{M:List (List Int)}{k:Nat}(h:Bd n M k)(hk:k<=121):tot M<=6050:=by
 unfold css.tot;have h2:(M.map List.length).sum<=49*M.length:=by
  have:=h.2.2.1;clear h
  induction M with
  | nil=>simp
  | cons L l ih =>
   rw [List.map_cons,List.sum_cons,List.length_cons];have:=ih (fun K hK=>this K (List.mem_cons_of_mem _ hK));have:=(by assumption:∀ K∈L::l,K.length<=49) L (List.mem_cons_self ..);omega
 have:=h.2.1;omega
end df
namespace dr
open cf (Box)
def AnyE (c:Nat)(w:World)(e:Ending)(w':World):Prop:=∃ (k:Int) (v:Value) (M:List (List Int)),e=.returned (.agg #[.int .i64 k,v])/\((-1<=k/\k<=25)/\(k<=7∨∀ L∈M,dcn.Low L))/\tot M<=1048576/\Drawn c w w' v M
theorem _root_.Go.Proofs.YtddmmoehlabkiaaGreatDoor.dcn.some_trans {a b d:World}{c:Nat}(h:a.grownBy b none)(k:b.grownBy d (some c)):a.grownBy d (some c) :=
 ⟨k.os.trans h.os,k.tape.trans h.tape,k.output.trans h.output,Nat.le_trans h.size k.size,fun i hi hn=>(k.block i (Nat.lt_of_lt_of_le hi h.size) hn).trans (h.block i hi nofun)⟩
theorem l09Cnf (c:Nat)(w:World)(hc:Cur w c) :
  Calls Tryz.prog 23 #[.pointer (some ⟨c,0,none⟩)] w fun e w'=>AnyE c w e w':=by
 have hlt:=hc.lt;have ga:=sl.qA w (.cells #[.int .i64 0,.slice none 0 0] 26) none;have CB:=qH (draw.below c 3 _ (hc.kept ga nofun) (by decide) (by decide));have R0:=qH (Box.new 26 w (.int .i64 0) (.slice none 0 0));have GA:=qH ga;clear hc ga;go_enter Tryz.func23,Tryz.ntmps23;go_wp2_with fail;refine (qU CB).mono ?_;rintro e w1 ⟨x,rfl,x0,x1,hc1,g1⟩;have C1:=qH hc1;have G1:=qH g1;have R1:=qH ((qU R0).by g1 (fun e=>by simp only [Option.some.injEq] at e;omega));have SZL:w.heap.size<=w1.heap.size:=Nat.le_trans (qU GA).size g1.size;clear hc1 g1 CB R0;have hx:x=0∨x=1∨(¬ x=0/\¬ x=1):=by omega
 rcases hx with rfl | rfl | ⟨e0,e1⟩
 ·go_wp2_with fail;refine (false_ _ _ (qU C1)).mono ?_;rintro e w2 ⟨k,v,M,rfl,hk,hcm,od,gd,cd⟩;have bd:((-1<=k/\k<=25)/\(k<=7∨∀ L∈M,dcn.Low L))/\tot M<=1048576:=⟨⟨by omega,.inl (by omega)⟩,tot48 hcm⟩;clear hk hcm;obtain⟨va,vc,rfl⟩:=od.len;have gd1:=sl.grown_trans' (qU G1) gd;have r2:=(qU R1).by gd (fun e=>by simp only [Option.some.injEq] at e;omega);have rc0:=r2.c0;have rc1:=r2.c1;have rf0:=r2.f 0;have rf1:=r2.f 1;have R2:=qH r2;have FN:=qH (dcn.Drawn.stored hlt (show w.grownBy w2 (some c) from dcn.some_trans (qU GA) gd1) cd (Nat.le_refl _) (od.sub SZL (Nat.le_refl _)) r2 k);have BD:=qH bd;clear r2 od gd cd bd gd1
  go_wp2_with fail
  (try simp only [Exit.inBlock,Exit.then])
  exact bodyPost_ret (cf.ret_box rfl rfl (((qU R2).set0 (.int .i64 k)).set1 (.slice va M.length vc))) rfl ⟨k,_,M,rfl,(qU BD).1,(qU BD).2,qU FN⟩
 ·go_wp2_with fail;refine (dcn.any _ _ (qU C1)).mono ?_;rintro e w2 ⟨k,v,M,rfl,hbd,od,gd,cd⟩;have bd:((-1<=k/\k<=25)/\(k<=7∨∀ L∈M,dcn.Low L))/\tot M<=1048576:=⟨⟨hbd.1,hbd.2.2.2⟩,Nat.le_trans (df.tot_bd hbd (by decide)) (by decide)⟩;clear hbd;obtain⟨va,vc,rfl⟩:=od.len;have gd1:=sl.grown_trans' (qU G1) gd;have r2:=(qU R1).by gd (fun e=>by simp only [Option.some.injEq] at e;omega);have rc0:=r2.c0;have rc1:=r2.c1;have rf0:=r2.f 0;have rf1:=r2.f 1;have R2:=qH r2;have FN:=qH (dcn.Drawn.stored hlt (show w.grownBy w2 (some c) from dcn.some_trans (qU GA) gd1) cd (Nat.le_refl _) (od.sub SZL (Nat.le_refl _)) r2 k)
  have BD:=qH bd;clear r2 od gd cd bd gd1;go_wp2_with fail
  (try simp only [Exit.inBlock,Exit.then])
  exact bodyPost_ret (cf.ret_box rfl rfl (((qU R2).set0 (.int .i64 k)).set1 (.slice va M.length vc))) rfl ⟨k,_,M,rfl,(qU BD).1,(qU BD).2,qU FN⟩
 ·go_wp2_with fail;refine (dcn.cnf c 6 _ (qU C1) (by decide) (by decide)).mono ?_;rintro e w2 ⟨k,v,M,rfl,hk,hl,hg,od,gd,cd⟩;have bd:((-1<=k/\k<=25)/\(k<=7∨∀ L∈M,dcn.Low L))/\tot M<=1048576:=⟨⟨by omega,.inl (by omega)⟩,Nat.le_trans (df.tot_bd (dcn.bd_good hk hl hg) (by decide)) (by decide)⟩;clear hk hl hg;obtain⟨va,vc,rfl⟩:=od.len;have gd1:=sl.grown_trans' (qU G1) gd;have r2:=(qU R1).by gd (fun e=>by simp only [Option.some.injEq] at e;omega);have rc0:=r2.c0;have rc1:=r2.c1;have rf0:=r2.f 0;have rf1:=r2.f 1;have R2:=qH r2;have FN:=qH (dcn.Drawn.stored hlt (show w.grownBy w2 (some c) from dcn.some_trans (qU GA) gd1) cd (Nat.le_refl _) (od.sub SZL (Nat.le_refl _)) r2 k)
  have BD:=qH bd;clear r2 od gd cd bd gd1;go_wp2_with fail
  (try simp only [Exit.inBlock,Exit.then])
  exact bodyPost_ret (cf.ret_box rfl rfl (((qU R2).set0 (.int .i64 k)).set1 (.slice va M.length vc))) rfl ⟨k,_,M,rfl,(qU BD).1,(qU BD).2,qU FN⟩
end dr
end Go.Proofs.YtddmmoehlabkiaaGreatDoor
