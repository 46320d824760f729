/- What the laws of sums draw: texts of so many bytes, keys and marks; what is drawn is left open. -/
import Derived.Test.YtddmmoehlabkiaaGreatDoorJOd
import Derived.Test.YtddmmoehlabkiaaGreatDoorJOz
namespace Go.Proofs.YtddmmoehlabkiaaGreatDoor
set_option linter.unusedVariables false
set_option maxRecDepth 100000
open Go.ChangeShapes Go.WideShapes Go.ChangeAt Go.RowKit
open sl (qH qU qT)
set_option maxHeartbeats 2000000
namespace zu
open sl (grown_trans')
open draw (Cur below)
open ze (of_own one_at)
open byt (run_back)
open dec (str)
theorem appO {ops:Array Oper}{rest:List Oper}{o:Oper}{a:Act}{Q:Exit->Act->World->Prop}{lo:Nat}{wr:World}{va:Value}{l t:List UInt8}{ad:Addr}{n cap:Nat}
  (hlo:lo<=wr.heap.size) (hA:wr.ownsRow lo 5 1 va l.length (Lib.byteCells l)) (hc:∀ j u,(Lib.byteCells t)[j]?=some u->wr.cell? (ad.add j)=some u) (hl:l.length+t.length<=4194304) (hn:n=t.length) (hgd:o.guard=none) (s x:Operand)
  (ho:o.op=.call { callee:=.builtin .append,args:=#[s,x],argTypes:=#[22,22] }) (hs:a.eval s=va) (hx:a.eval x=.slice (some ad) n cap)
  (h:∀ v' w1,w1.ownsRow lo 5 1 v' (l++t).length (Lib.byteCells (l++t))->wr.grownBy w1 va.ownBlock->wpList Tryz.prog ops Q rest (a.put o.dst v') w1):wpList Tryz.prog ops Q (o::rest) a wr:=by
 subst hn;obtain⟨i0,hi,hz0,hz1,hz2⟩:=info_parts byt.infoU;refine wpList_append_own _ hgd s x 22 ho lo 5 i0 (.int .u8 0) 1 1 Tryz.underlying22 hi hz0 hz1 hz2 rfl (by decide) va l.length (Lib.byteCells l) hs hA ad t.length cap (Lib.byteCells t) hx (by rw [Lib.byteCells_length];omega) hc (Lib.byteCells_one t) ?_ ?_ ?_ ?_
 ·unfold maxLen;omega
 ·omega
 ·exact hlo
 ·intro v' w1 hown' hgrow _;refine h v' w1 ?_ hgrow;rw [List.length_append,Lib.byteCells_append];exact hown'
theorem convert_own {lo:Nat}{w:World}{v:Value}{l:List UInt8}(h:w.ownsRow lo 5 1 v l.length (Lib.byteCells l))(hv:∃ a c,v=.slice (some a) l.length c):(convert 22 9 v).run Tryz.prog w=.ok (str l) w:=by
 obtain⟨a,c,rfl⟩:=hv;exact run_back w _ l lo (of_own h)
theorem any (c n:Nat)(w:World)(hc:Cur w c)(hn:n<=100000) :
  Calls Tryz.prog 40 #[.pointer (some ⟨c,0,none⟩),.int .i64 n] w fun e w'=>∃ s:ByteArray,e=.returned (.string s)/\s.size=n/\Cur w' c/\w.grownBy w' (some c):=by
 have hcl:=hc.lt;have start:Hid ((w.alloc (.cells #[] 5)).ownsRow w.heap.size 5 1 (.slice (some ⟨w.heap.size,0,none⟩) 0 0) ([]:List UInt8).length (Lib.byteCells [])/\Cur (w.alloc (.cells #[] 5)) c/\w.grownBy (w.alloc (.cells #[] 5)) (some c)) :=
  ⟨World.ownsRow_lit w #[] 0 (Nat.le_refl _) (Nat.zero_le _) rfl,hc.kept (sl.qA w _ none) nofun,sl.qA w _ _⟩
 clear hc;go_enter Tryz.func40,Tryz.ntmps40;go_wp2;go_loopw [5,6] (fun u i wr=>∃ (k g cap:Nat) (l:List UInt8),k<=n/\i=.int .i64 k/\u=.slice (some ⟨g,0,none⟩) k cap/\l.length=k/\wr.ownsRow w.heap.size 5 1 (.slice (some ⟨g,0,none⟩) k cap) l.length (Lib.byteCells l)/\Cur wr c/\w.grownBy wr (some c)) (fun _ i _=>n - (intOf i).toNat)
 case atStart=>exact⟨0,w.heap.size,0,[],Nat.zero_le _,rfl,rfl,rfl,(qU start).1,(qU start).2.1,(qU start).2.2⟩
 case round =>
  obtain⟨k,g,cap,l,hk,rfl,rfl,hl,hown,hC,hg⟩:=hrel;clear start;by_cases hlt:k<n
  ·have i0:(k:Int)<(n:Int):=by omega
   have HO:=qH hown;have HC:=qH hC;have HG:=qH hg;have HLl:=qH hl;have HL:Hid (l.length+1<=4194304):=by show _<=_;omega
   have hgl:w.heap.size<=g:=(hown.lt g rfl).1;clear hown hC hg hl;go_wp2_with fail;refine (below c 256 _ (qU HC) (by decide) (by decide)).mono ?_;rintro e w1 ⟨x,rfl,x0,x1,hc1,g1⟩;obtain⟨xn,rfl⟩:=Int.eq_ofNat_of_zero_le x0;obtain⟨y,hy⟩:∃ y:UInt8,(xn:Int)=(y.toNat:Int):=⟨UInt8.ofNat xn,by rw [UInt8.toNat_ofNat'];omega⟩;have O1:Hid ((w1.alloc (.cells #[.int .u8 y.toNat] 5)).ownsRow w.heap.size 5 1 (.slice (some ⟨g,0,none⟩) k cap) l.length (Lib.byteCells l)):=((qU HO).kept g1 (.inr (fun e=>by have e':g=c:=Option.some.inj e;omega))).alloc _;have G1:Hid (w.grownBy (w1.alloc (.cells #[.int .u8 y.toNat] 5)) (some c)):=grown_trans' (grown_trans' (qU HG) g1) (sl.qA _ _ _)
   have C1:Hid (Cur (w1.alloc (.cells #[.int .u8 y.toNat] 5)) c):=hc1.kept (sl.qA _ _ none) nofun;have HB:=qH (one_at w1 y);have hsz:Hid (w.heap.size<=(w1.alloc (.cells #[.int .u8 y.toNat] 5)).heap.size):=(qU G1).size;clear hc1 g1 HO HC HG x0;go_wp2_with (at_builtin;refine appO (qU hsz) (qU O1) (qU HB) (qU HL) rfl rfl (.tmp 13) (.tmp 17) rfl rfl rfl ?_;intro v2 w2 o2 g2;have O2:=qH o2;have G2:=qH g2;clear o2 g2);have hv:∃ g2 c2,v2=.slice (some ⟨g2,0,none⟩) (k+1) c2:=by
    have ll:(l++[y]).length=k+1:=by rw [List.length_append,qU HLl];rfl
    have oo:=qU O2;rw [ll] at oo;obtain⟨_,h⟩:=oo;rcases h with ⟨_,h0⟩ | ⟨g2,c2,cur,e,_⟩
    ·omega
    ·exact⟨g2,c2,e⟩
   obtain⟨gg,cc,rfl⟩:=hv;have ll:Hid ((l++[y]).length=k+1):=by show _=_;rw [List.length_append,qU HLl];rfl
   have R:Hid (Cur w2 c/\w.grownBy w2 (some c)):=by
    have g2:(w1.alloc (.cells #[.int .u8 y.toNat] 5)).grownBy w2 (some g):=qU G2;refine⟨(qU C1).kept g2 (fun r e=>by injection e with e;omega),?_⟩;have hG:=qU G1;exact⟨g2.os.trans hG.os,g2.tape.trans hG.tape,g2.output.trans hG.output,Nat.le_trans hG.size g2.size,fun j hj hr=>(g2.block j (Nat.lt_of_lt_of_le hj hG.size) (fun e=>by injection e with e;omega)).trans (hG.block j hj hr)⟩
   clear O1 G1 C1 HB hsz G2;go_roundw
   case rel=>exact⟨k+1,gg,cc,l++[y],by omega,by go_num,rfl,qU ll,qU O2,(qU R).1,(qU R).2⟩
   case measure=>simp [intOf];omega
  ·have i0:¬ (k:Int)<(n:Int):=by omega
   have hk':k=n:=by omega
   have CV:=convert_own hown ⟨_,cap,by rw [hl]⟩;unfold dec.str at CV;have HC:=qH hC;have HG:=qH hg;have HS:Hid ((ByteArray.mk l.toArray).size=n):=by show _=_;rw [zr.mk_size,hl,hk']
   clear hown hC hg hl hk';go_wp2_with fail;go_ret;exact⟨_,rfl,qU HS,qU HC,qU HG⟩
end zu
end Go.Proofs.YtddmmoehlabkiaaGreatDoor
