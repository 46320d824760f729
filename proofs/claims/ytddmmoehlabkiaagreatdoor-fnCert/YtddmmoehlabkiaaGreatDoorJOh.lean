/- What the model's l04Clause and l04Unit answer; no condition but that the clauses hold literals, and on the sizes. -/
import Derived.Test.YtddmmoehlabkiaaGreatDoorJXWz
import Derived.WalkMore
import Derived.ArgAppend
import Derived.Test.YtddmmoehlabkiaaGreatDoorJXSlw
import Derived.Test.YtddmmoehlabkiaaGreatDoorJXVt
import Derived.Test.YtddmmoehlabkiaaGreatDoorJXNs
namespace Go.Proofs.YtddmmoehlabkiaaGreatDoor
set_option linter.unusedVariables false
set_option maxRecDepth 100000
open Go.ChangeShapes Go.WideShapes Go.ChangeAt Go.RowKit
open lits (okB okB_iff)
open bset (setOf)
open cls (hasB)
open sl (Sl grown_trans Own ints)
open css (Sls tot)
open cf (Box)
open ok (cnfB)
open wo (Made)
open fm (freeL)
open sl (qH qU qT)
set_option maxHeartbeats 8000000
namespace sp
open bset (placeN placeN_inj setOf_lt setOf_has setOf_bit)
open Go.Proofs.YtddmmoehlabkiaaGreatDoor.wm
open srt (andN_lt)
open sl (ret_int)
theorem closed_iff {c A:List Int}(hc:∀ x∈c,okB x=true):clsd (setOf c) (setOf A)=c.any (hasB A):=by
 rw [Bool.eq_iff_iff,List.any_eq_true]
 constructor
 ·intro h;apply Classical.byContradiction;intro hn;have:clsd (setOf c) (setOf A)=false:=clsd_no.2 (fun b hb=>by
   obtain⟨h1,h2⟩:=hb;rw [setOf_bit,List.any_eq_true] at h1;obtain⟨x,hx,e⟩:=h1;rw [Bool.and_eq_true,decide_eq_true_iff] at e;exact hn ⟨x,hx,by rw [←setOf_has A x e.1,e.2];exact h2⟩)
  rw [h] at this;cases this
 ·rintro⟨x,hx,hA⟩;cases h:clsd (setOf c) (setOf A)
  ·exfalso
   refine clsd_no.1 h (placeN x) ⟨?_,?_⟩
   ·rw [setOf_has c x (hc x hx)];exact decide_eq_true hx
   ·rw [setOf_has A x (hc x hx)];exact hA
  ·rfl
theorem open_iff {c A:List Int}{x:Int}(hx:okB x=true):(opn (setOf c) (setOf A)).testBit (placeN x)=(hasB c x && !hasB A (-x)):=by
 rw [opn_bit _ _ _ (setOf_lt c),swp_place hx,setOf_has c x hx,setOf_has A (-x) (opp_ok hx)]
theorem open_lit {c A:List Int}{b:Nat}(hb:(opn (setOf c) (setOf A)).testBit b=true):∃ x,x∈c/\okB x=true/\hasB A (-x)=false/\placeN x=b:=by
 obtain⟨x,hx,e⟩:=bit_lit (andN_lt _ _ (setOf_lt c)) hb;rw [←e,open_iff hx,Bool.and_eq_true,Bool.not_eq_true'] at hb;exact⟨x,of_decide_eq_true hb.1,hx,hb.2,e⟩
theorem cl_closed {c A:List Int}{x:Int}(hc:∀ x∈c,okB x=true)(hx:x∈c)(hA:hasB A x=true):clauseN (setOf c) (setOf A)=0 :=
 clauseN_closed (by rw [closed_iff hc,List.any_eq_true];exact⟨x,hx,hA⟩)
theorem cl_two {c A:List Int}{x y:Int}(hc:∀ x∈c,okB x=true)(hn:c.any (hasB A)=false)(hx:x∈c)(hy:y∈c)(ox:hasB A (-x)=false)(oy:hasB A (-y)=false)(hxy:x≠y):clauseN (setOf c) (setOf A)=0:=by
 have bx:(opn (setOf c) (setOf A)).testBit (placeN x)=true:=by rw [open_iff (hc x hx),ox,show hasB c x=true from decide_eq_true hx];rfl
 have by':(opn (setOf c) (setOf A)).testBit (placeN y)=true:=by rw [open_iff (hc y hy),oy,show hasB c y=true from decide_eq_true hy];rfl
 have ho:opn (setOf c) (setOf A)≠0:=fun e=>by rw [e,Nat.zero_testBit] at bx;cases bx
 refine clauseN_two (by rw [closed_iff hc];exact hn) ho (fun e=>?_);exact hxy (placeN_inj (hc x hx) (hc y hy) ((one_iff (andN_lt _ _ (setOf_lt c)) ho).1 e _ _ bx by'))
theorem cl_one {c A:List Int}{y:Int}(hc:∀ x∈c,okB x=true)(hn:c.any (hasB A)=false)(hy:y∈c)(oy:hasB A (-y)=false)(hall:∀ x∈c,hasB A (-x)=true∨x=y):clauseN (setOf c) (setOf A)=y:=by
 have by':(opn (setOf c) (setOf A)).testBit (placeN y)=true:=by rw [open_iff (hc y hy),oy,show hasB c y=true from decide_eq_true hy];rfl
 have ho:opn (setOf c) (setOf A)≠0:=fun e=>by rw [e,Nat.zero_testBit] at by';cases by'
 have on:∀ b,(opn (setOf c) (setOf A)).testBit b=true->b=placeN y:=by
  intro b hb;obtain⟨x,hx,okx,ox,e⟩:=open_lit hb;rcases hall x hx with q | q
  ·rw [ox] at q;cases q
  ·rw [←e,q]
 have hr:=(one_iff (andN_lt _ _ (setOf_lt c)) ho).2 (fun a b ha hb=>(on a ha).trans (on b hb).symm);rw [clauseN_one (by rw [closed_iff hc];exact hn) ho hr];have fs:=fst_spec (Nat.pos_of_ne_zero ho) (andN_lt _ _ (setOf_lt c));exact placeN_inj fs.1 (hc y hy) (on _ fs.2)
theorem cl_none {c A:List Int}(hc:∀ x∈c,okB x=true)(hn:c.any (hasB A)=false)(hall:∀ x∈c,hasB A (-x)=true):clauseN (setOf c) (setOf A) = -100:=by
 refine clauseN_empty (by rw [closed_iff hc];exact hn) (zero_of fun b=>?_);cases hb:(opn (setOf c) (setOf A)).testBit b
 ·rfl
 ·obtain⟨x,hx,okx,ox,e⟩:=open_lit hb;rw [hall x hx] at ox;cases ox
def Sofar (A c:List Int)(k:Nat)(o:Int):Prop:=(o=0/\∀ x∈c.take k,hasB A (-x)=true)∨(o∈c.take k/\hasB A (-o)=false/\∀ x∈c.take k,hasB A (-x)=true∨x=o)
theorem take_mem {c:List Int}{k:Nat}(h:k<c.length){x:Int}:x∈c.take (k+1)↔x∈c.take k∨x=c.getD k 0:=by
 rw [wm.take_snoc c k h,List.mem_append,List.mem_singleton]
theorem l04Clause (v u:Value)(c A:List Int)(w:World)(hC:c.length<=1048576)(hA:A.length<=2097152)(hc:∀ x∈c,okB x=true)(hv:Sl w v c)(hu:Sl w u A) :
  Calls Tryz.prog 171 #[v,u] w fun e w'=>e=.returned (.int .i64 (clauseN (setOf c) (setOf A)))/\w'=w:=by
 have CH:=qH (fun x=>slw.specClauseHas u A x w hA hu);have HC:=qH hc;obtain⟨a,cap,rfl,ha⟩:=hv;have HV:=qH ha;clear ha hu hc;go_enter Tryz.func171,Tryz.ntmps171;go_wp2;go_loop [6] (fun i=>∃ k:Nat,k<=c.length/\i=.int .i64 k/\Hid ((c.take k).any (hasB A)=false)) (fun i=>c.length - (intOf i).toNat)
 case atStart=>exact⟨0,Nat.zero_le _,rfl,by show _=_;simp⟩
 case round =>
  obtain⟨k,hk,rfl,hall⟩:=hrel;by_cases hlt:k<c.length
  ·rcases qU HV with h | ⟨b,off,rfl,hb,hcb⟩
   ·rw [h] at hlt;simp at hlt
   ·have c1:=hcb k hlt;have hi':(k:Int)<(c.length:Int):=by omega
    have h2:=tr.any_step (hasB A) c k 0 hlt (qU hall);have hm:c.getD k 0∈c:=by rw [show c.getD k 0=c[k] by simp [hlt]];exact List.getElem_mem hlt
    generalize c.getD k 0=x at *;have ch:=qU CH x;cases hx:hasB A x
    ·rw [hx] at ch;have C2:=qH ch;have H:=qH (h2 hx);clear ch h2 hx hcb hall HV CH hm;go_wp2_with (go_at_call 139;refine (qU C2).mono ?_;rintro e w' ⟨rfl,rfl⟩)
     go_round
     case rel=>exact⟨k+1,by omega,by go_num,H⟩
     case measure=>simp [intOf];omega
    ·rw [hx] at ch;have C2:=qH ch;have H:=qH (cl_closed (qU HC) hm hx);clear ch h2 hx hcb hall HV CH hm;go_wp2_with (go_at_call 139;refine (qU C2).mono ?_;rintro e w' ⟨rfl,rfl⟩);go_ret;exact⟨ret_int (qU H).symm,rfl⟩
  ·have hi':¬ (k:Int)<(c.length:Int):=by omega
   have HN:=qH (tr.any_end (hasB A) c k hlt (qU hall));clear hall;go_wp2;clear hi' hlt hk;go_loop [5,7] (fun o i=>∃ (k:Nat) (y:Int),k<=c.length/\i=.int .i64 k/\o=.int .i64 y/\-24<=y/\y<=24/\Hid (Sofar A c k y)) (fun _ i=>c.length - (intOf i).toNat)
   case atStart=>exact⟨0,0,Nat.zero_le _,rfl,rfl,by decide,by decide,.inl ⟨rfl,fun x hx=>by simp at hx⟩⟩
   case round =>
    obtain⟨k,y,hk,rfl,rfl,y1,y2,hall⟩:=hrel;by_cases hlt:k<c.length
    ·rcases qU HV with h | ⟨b,off,rfl,hb,hcb⟩
     ·rw [h] at hlt;simp at hlt
     ·have c1:=hcb k hlt;have hi':(k:Int)<(c.length:Int):=by omega
      have hm:c.getD k 0∈c:=by rw [show c.getD k 0=c[k] by simp [hlt]];exact List.getElem_mem hlt
      have tm:=fun z=>take_mem hlt (x:=z);generalize c.getD k 0=x at *;have okx:=qU HC x hm;have bd:=okB_iff.1 okx;have ch:=qU CH (-x);obtain⟨b0,b1,b2⟩:=bd;cases hx:hasB A (-x)
      ·rw [hx] at ch;have C2:=qH ch;by_cases hxy:x=y
       ·have H:Hid (Sofar A c (k+1) y):=by
         rcases qU hall with ⟨q1,q2⟩ | ⟨q1,q2,q3⟩
         ·omega
         ·exact .inr ⟨(tm y).2 (.inl q1),q2,fun z hz=>by
           rcases (tm z).1 hz with e | e
           ·exact q3 z e
           ·exact .inr (e.trans hxy)⟩
        subst hxy;have he:(x == x)=true:=by simp
        clear ch hx hcb hall HV CH hm tm okx;go_wp2_with (go_at_call 139;refine (qU C2).mono ?_;rintro e w' ⟨rfl,rfl⟩)
        go_round
        case rel=>exact⟨k+1,x,by omega,by go_num,rfl,y1,y2,H⟩
        case measure=>simp [intOf];omega
       ·have he:(x == y)=false:=by simpa using hxy
        by_cases hy0:y=0
        ·subst hy0;have H:Hid (Sofar A c (k+1) x):=by
          rcases qU hall with ⟨q1,q2⟩ | ⟨q1,q2,q3⟩
          ·exact .inr ⟨(tm x).2 (.inr rfl),hx,fun z hz=>by
            rcases (tm z).1 hz with e | e
            ·exact .inl (q2 z e)
            ·exact .inr e⟩
          ·have:=okB_iff.1 (qU HC 0 (List.mem_of_mem_take q1));omega
         clear ch hx hcb hall HV CH hm tm okx hxy;go_wp2_with (go_at_call 139;refine (qU C2).mono ?_;rintro e w' ⟨rfl,rfl⟩)
         go_round
         case rel=>exact⟨k+1,x,by omega,by go_num,rfl,b1,b2,H⟩
         case measure=>simp [intOf];omega
        ·have hy0':(y != 0)=true:=by simpa using hy0
         have H:Hid (clauseN (setOf c) (setOf A)=0):=by
          rcases qU hall with ⟨q1,q2⟩ | ⟨q1,q2,q3⟩
          ·exact absurd q1 hy0
          ·exact cl_two (qU HC) (qU HN) hm (List.mem_of_mem_take q1) hx q2 hxy
         clear ch hx hcb hall HV CH hm tm okx hxy;go_wp2_with (go_at_call 139;refine (qU C2).mono ?_;rintro e w' ⟨rfl,rfl⟩);go_ret;exact⟨ret_int (qU H).symm,rfl⟩
      ·rw [hx] at ch;have C2:=qH ch;have H:Hid (Sofar A c (k+1) y):=by
        rcases qU hall with ⟨q1,q2⟩ | ⟨q1,q2,q3⟩
        ·exact .inl ⟨q1,fun z hz=>by
          rcases (tm z).1 hz with e | e
          ·exact q2 z e
          ·rw [e];exact hx⟩
        ·exact .inr ⟨(tm y).2 (.inl q1),q2,fun z hz=>by
          rcases (tm z).1 hz with e | e
          ·exact q3 z e
          ·rw [e];exact .inl hx⟩
       clear ch hx hcb hall HV CH hm tm okx;go_wp2_with (go_at_call 139;refine (qU C2).mono ?_;rintro e w' ⟨rfl,rfl⟩)
       go_round
       case rel=>exact⟨k+1,y,by omega,by go_num,rfl,y1,y2,H⟩
       case measure=>simp [intOf];omega
    ·have hi':¬ (k:Int)<(c.length:Int):=by omega
     have et:c.take k=c:=List.take_of_length_le (by omega);have hs:=qU hall;unfold Sofar at hs;rw [et] at hs;by_cases hy0:y=0
     ·subst hy0;have H:Hid (clauseN (setOf c) (setOf A) = -100):=by
       rcases hs with ⟨q1,q2⟩ | ⟨q1,q2,q3⟩
       ·exact cl_none (qU HC) (qU HN) q2
       ·have:=okB_iff.1 (qU HC 0 q1);omega
      clear HV CH hall hs et;go_wp2;go_ret;exact⟨ret_int (qU H).symm,rfl⟩
     ·have hy0':(y == 0)=false:=by simpa using hy0
      have H:Hid (clauseN (setOf c) (setOf A)=y):=by
       rcases hs with ⟨q1,q2⟩ | ⟨q1,q2,q3⟩
       ·exact absurd q1 hy0
       ·exact cl_one (qU HC) (qU HN) q1 q2 q3
      clear HV CH hall hs et;go_wp2;go_ret;exact⟨ret_int (qU H).symm,rfl⟩
end sp
namespace sp
open Go.Proofs.YtddmmoehlabkiaaGreatDoor.wm
theorem firstN_snoc (l:List Int)(x:Int):firstN (l++[x])=if firstN l=0 then x else firstN l:=by
 unfold firstN;rw [List.find?_append];cases h:l.find? (fun x=>x != 0) with
 | none =>
  simp only [Option.none_or,Option.getD_none,if_pos];by_cases hx:x=0
  ·subst hx;rfl
  ·rw [List.find?_cons_of_pos (by simpa using hx)];rfl
 | some y =>
  have hy:y≠0:=by simpa using List.find?_some h
  simp only [Option.some_or,Option.getD_some];rw [if_neg hy]
def Met (T:Nat)(LL:List (List Int))(k:Nat)(f:Int):Prop:=f=firstN ((LL.take k).map fun c=>clauseN (setOf c) T)/\((LL.take k).map fun c=>clauseN (setOf c) T).any (· == -100)=false
theorem unit_hit {T:Nat}{LL:List (List Int)}{k:Nat}(h:k<LL.length)(hx:clauseN (setOf (LL.getD k [])) T = -100):unitN (LL.map setOf) T=(0,false):=by
 unfold unitN;rw [if_pos];rw [List.any_eq_true];refine⟨_,List.mem_map.2 ⟨setOf (LL.getD k []),List.mem_map.2 ⟨LL.getD k [],?_,rfl⟩,rfl⟩,?_⟩
 ·rw [show LL.getD k []=LL[k] by simp [h]];exact List.getElem_mem h
 ·rw [hx];rfl
theorem met_step {T:Nat}{LL:List (List Int)}{k:Nat}{f:Int}(h:k<LL.length)(hm:Met T LL k f)(hx:clauseN (setOf (LL.getD k [])) T≠-100):Met T LL (k+1) (if f=0 then clauseN (setOf (LL.getD k [])) T else f):=by
 unfold Met at *;rw [css.take_snoc LL k h,List.map_append,List.any_append,hm.2];refine⟨?_,?_⟩
 ·show _=firstN (_++[_]);rw [firstN_snoc,←hm.1]
 ·have:(clauseN (setOf (LL.getD k [])) T == -100)=false:=by simpa using hx
  simp only [List.map_cons,List.map_nil,List.any_cons,List.any_nil,Bool.false_or,Bool.or_false];exact this
theorem met_end {T:Nat}{LL:List (List Int)}{k:Nat}{f:Int}(h:¬ k<LL.length)(hm:Met T LL k f):unitN (LL.map setOf) T=(f,true):=by
 unfold Met at hm;rw [List.take_of_length_le (by omega)] at hm;unfold unitN;rw [List.map_map];rw [if_neg (by
  have:=hm.2;show ¬ ((LL.map fun c=>clauseN (setOf c) T).any _)=true;rw [this];simp)]
 rw [hm.1];rfl
theorem l04Unit (v u:Value)(n:Int)(LL:List (List Int))(A:List Int)(w:World)(hn:tot LL<=1048576)(hA:A.length<=2097152)(hc:∀ c∈LL,∀ x∈c,okB x=true)(hv:Sls w v LL)(hu:Sl w u A) :
  Calls Tryz.prog 156 #[.agg #[.int .i64 n,v],u] w fun e w'=>e=.returned (.tuple #[.int .i64 (unitN (LL.map setOf) (setOf A)).1,.bool (unitN (LL.map setOf) (setOf A)).2])/\w.grownBy w' none:=by
 have g0:=sl.qA w (.cells #[.int .i64 n,v] 26) none;have F0:=qH (Box.new 26 w (.int .i64 n) v);have G0:=qH g0;have HU:=qH (hu.kept g0 (.inl rfl));have hv':=hv.kept g0;have HC:=qH hc;have hl:=Nat.le_trans (css.tot_len LL) hn;obtain⟨a,cap,rfl,_⟩:=hv;have HV:=qH hv';clear hu g0 hc hv';have y0:=(qU F0).c0;have y1:=(qU F0).c1;go_enter Tryz.func156,Tryz.ntmps156;go_wp2;go_loop [6,7] (fun f i=>∃ (k:Nat) (x:Int),k<=LL.length/\i=.int .i64 k/\f=.int .i64 x/\Hid (Met (setOf A) LL k x)) (fun _ i=>LL.length - (intOf i).toNat)
 case atStart=>exact⟨0,0,Nat.zero_le _,rfl,rfl,rfl,rfl⟩
 case round =>
  obtain⟨k,f,hk,rfl,rfl,hm⟩:=hrel;by_cases hlt:k<LL.length
  ·have hs:=qU HV;obtain⟨a',c',e',hcells⟩:=hs;simp only [Value.slice.injEq] at e';obtain⟨rfl,_,rfl⟩:=e';rcases hcells with h | ⟨b,off,rfl,hb,hcb⟩
   ·rw [h] at hlt;simp at hlt
   ·obtain⟨cu,hcu,hsl⟩:=hcb k hlt;have hi':(k:Int)<(LL.length:Int):=by omega
    have hLk:=Nat.le_trans (css.tot_in LL k) hn;have hmem:LL.getD k []∈LL:=by rw [show LL.getD k []=LL[k] by simp [hlt]];exact List.getElem_mem hlt
    have CC:=qH (l04Clause cu u (LL.getD k []) A _ hLk hA (qU HC _ hmem) hsl (qU HU));have uh:=unit_hit (T:=setOf A) hlt;have ms:=met_step hlt (qU hm);generalize clauseN (setOf (LL.getD k [])) (setOf A)=x at *;by_cases hx:x = -100
    ·have E:=qH (uh hx);subst hx;clear uh ms hm hcb hsl hmem HV HC HU;go_wp2_with fail;refine (qU CC).mono ?_;rintro e w' ⟨rfl,hw⟩;have hw':=hw.symm;clear hw;subst hw';go_wp2_with fail;go_ret2;exact⟨by rw [qU E];rfl,qU G0⟩
    ·have hx':(x == -100)=false:=by simpa using hx
     by_cases hf:f=0
     ·have E:Hid (Met (setOf A) LL (k+1) x):=by
       have:=ms hx;rw [if_pos hf] at this;exact this
      subst hf;clear uh ms hm hcb hsl hmem HC;go_wp2_with fail;refine (qU CC).mono ?_;rintro e w' ⟨rfl,hw⟩;have hw':=hw.symm;clear hw;subst hw';go_wp2_with fail
      go_round
      case rel=>exact⟨k+1,x,by omega,by go_num,rfl,E⟩
      case measure=>simp [intOf];omega
     ·have hf':(f == 0)=false:=by simpa using hf
      have E:Hid (Met (setOf A) LL (k+1) f):=by
       have:=ms hx;rw [if_neg hf] at this;exact this
      clear uh ms hm hcb hsl hmem HC;go_wp2_with fail;refine (qU CC).mono ?_;rintro e w' ⟨rfl,hw⟩;have hw':=hw.symm;clear hw;subst hw';go_wp2_with fail
      go_round
      case rel=>exact⟨k+1,f,by omega,by go_num,rfl,E⟩
      case measure=>simp [intOf];omega
  ·have hi':¬ (k:Int)<(LL.length:Int):=by omega
   have E:=qH (met_end hlt (qU hm));clear hm;go_wp2;go_ret2;exact⟨by rw [qU E];rfl,qU G0⟩
theorem okU_facts {n:Int}{LL:List (List Int)}(h:cnfB n LL=true):∀ c∈LL,∀ x∈c,okB x=true:=fun c hc x hx=>by
 have:=((fm.cnf_facts h).2.2.2 c hc).2 x hx
 unfold ok.litIn at this
 rw [Bool.and_eq_true] at this
 exact this.1
end sp
namespace ff
open srt (srt)
open fm (freeN cnf_facts)
theorem freeL_no {n:Int}{LL:List (List Int)}{L:List Int}(h:cnfB n LL=false):freeL n LL L=[]:=by unfold fm.freeL;rw [h];rfl
theorem freeL_yes {m:Nat}{LL:List (List Int)}{L:List Int}(h:cnfB (m:Int) LL=true):freeL (m:Int) LL L=srt (freeN m L) 48:=by unfold fm.freeL;rw [h];rfl
theorem Made.low {w w1 w2:World}{v:Value}{L:List Int}(g:w.grownBy w1 none)(h:Made w1 w2 v L):Made w w2 v L :=
 ⟨css.own_mono h.1 g.size,grown_trans g h.2⟩
theorem Made.up {w w1 w2:World}{v:Value}{L:List Int}(h:Made w w1 v L)(g:w1.grownBy w2 none):Made w w2 v L :=
 ⟨h.1.kept g (by cases v.ownBlock with | none=>exact .inl rfl | some k=>exact .inr (by simp)),grown_trans h.2 g⟩
theorem specFree (v u:Value)(n:Int)(LL:List (List Int))(L:List Int)(w:World)(hn:tot LL<=1048576)(hL:L.length<=1048576)(hv:Sls w v LL)(hu:Sl w u L) :
  Calls Tryz.prog 117 #[.agg #[.int .i64 n,v],u] w fun e w'=>∃ r,e=.returned r/\Made w w' r (freeL n LL L):=by
 have g0:=sl.qA w (.cells #[.int .i64 n,v] 26) none;have m0:=app.made_nil (w.alloc (.cells #[.int .i64 n,v] 26));have g1:=sl.qA (w.alloc (.cells #[.int .i64 n,v] 26)) (.cells #[] 3) none;have F0:=qH (Box.new 26 w (.int .i64 n) v);have G0:=qH g0;have cc:=ok.specCnfOk v n LL _ hn ((hv.kept g0).kept g1);simp only [World.size_alloc] at m0;have M0:=qH m0;have HU:=qH (hu.kept g0 (.inl rfl));have x0:=((qU F0).kept g1).c0;have x1:=((qU F0).kept g1).c1;clear hv g0 g1 m0 hu;cases hb:cnfB n LL
 ·rw [hb] at cc;rw [freeL_no hb];have CC:=qH cc;clear cc hb HU;go_enter Tryz.func117,Tryz.ntmps117;go_wp2_with fail;refine (qU CC).mono ?_;rintro e w2 ⟨rfl,g2⟩;have M2:=qH (Made.up (qU M0) g2);have y0:=((qU F0).kept (qU M2).2).c0;clear g2 F0 x0 x1 M0;go_wp2_with fail;go_ret;exact⟨_,rfl,Made.low (qU G0) (qU M2)⟩
 have hf:=cnf_facts hb;obtain⟨m,rfl⟩:=Int.eq_ofNat_of_zero_le hf.1;have hm:m<=24:=by omega
 rw [hb] at cc;rw [freeL_yes hb];have CC:=qH cc;clear cc hb hf;go_enter Tryz.func117,Tryz.ntmps117;go_wp2_with fail;refine (qU CC).mono ?_;rintro e w2 ⟨rfl,g2⟩;have M2:=qH (Made.up (qU M0) g2);clear g2 x0 x1 M0;go_wp2_with fail;go_loopw [5,6] (fun r i wr=>∃ k:Nat,k<=m/\i=.int .i64 ((k:Int)+1)/\Made (w.alloc (.cells #[.int .i64 (m:Int),v] 26)) wr r (srt (freeN m L) (2*k))) (fun _ i _=>30 - (intOf i).toNat)
 case atStart=>exact⟨0,Nat.zero_le _,rfl,qU M2⟩
 case round =>
  obtain⟨k,hk,rfl,hmd⟩:=hrel;clear M2;obtain⟨hown,hg⟩:=hmd;have hbx:=qH ((qU F0).kept hg);have x0:=(qU hbx).c0;have x1:=(qU hbx).c1;by_cases hlt:k<m
  ·have hi':(k:Int)+1<=(m:Int):=by omega
   have ca:=cls.specClauseHas u L ((k:Int)+1) wr hL ((qU HU).kept hg (.inl rfl));have cb:=cls.specClauseHas u L (-((k:Int)+1)) wr hL ((qU HU).kept hg (.inl rfl));have hle:(srt (freeN m L) (2*k)).length<=48:=Nat.le_trans (srt.srt_len _ _) (by omega);have fy:=fm.free_yes (L:=L) hm hlt;have fn:=fm.free_no (L:=L) hm hlt;have hsz:=hg.size;clear HU;cases ha:hasB L ((k:Int)+1)
   ·rw [ha] at ca;cases hb:hasB L (-((k:Int)+1))
    ·rw [hb] at cb;have E:=qH (fy ha hb);have CA:=qH ca;have CB:=qH cb;clear fy fn ca cb ha hb;generalize srt (freeN m L) (2*k)=M at *;go_wp2_with fail;refine (qU CA).mono ?_;rintro e w3 ⟨rfl,hw⟩;have hw':=hw.symm;clear hw;subst hw';go_wp2_with fail;refine (qU CB).mono ?_;rintro e w3 ⟨rfl,hw⟩;have hw':=hw.symm;clear hw;subst hw';clear CA CB CC;go_wp2_with (at_builtin;refine wo.append1 hg hown (by omega) rfl _ _ rfl rfl rfl ?_);intro v' w1 R;clear hown hg x0 x1 hbx;go_wp2;go_roundw
     case rel=>exact⟨k+1,by omega,by go_num,by rw [qU E];exact R⟩
     case measure=>simp [intOf];omega
    ·rw [hb] at cb;have E:=qH (fn (.inr hb));have CA:=qH ca;have CB:=qH cb;clear fy fn ca cb ha hb;generalize srt (freeN m L) (2*k)=M at *;go_wp2_with fail;refine (qU CA).mono ?_;rintro e w3 ⟨rfl,hw⟩;have hw':=hw.symm;clear hw;subst hw';go_wp2_with fail;refine (qU CB).mono ?_;rintro e w3 ⟨rfl,hw⟩;have hw':=hw.symm;clear hw;subst hw';have R:Hid (Made (w.alloc (.cells #[.int .i64 (m:Int),v] 26)) wr _ M):=⟨hown,hg⟩;clear CA CB CC hown hg x0 x1;go_wp2;go_roundw
     case rel=>exact⟨k+1,by omega,by go_num,by rw [qU E];exact qU R⟩
     case measure=>simp [intOf];omega
   ·rw [ha] at ca;have E:=qH (fn (.inl ha));have CA:=qH ca;clear fy fn ca cb ha;generalize srt (freeN m L) (2*k)=M at *;go_wp2_with fail;refine (qU CA).mono ?_;rintro e w3 ⟨rfl,hw⟩;have hw':=hw.symm;clear hw;subst hw';have R:Hid (Made (w.alloc (.cells #[.int .i64 (m:Int),v] 26)) wr _ M):=⟨hown,hg⟩;clear CA CC hown hg x0 x1;go_wp2;go_roundw
    case rel=>exact⟨k+1,by omega,by go_num,by rw [qU E];exact qU R⟩
    case measure=>simp [intOf];omega
  ·have hi':¬ (k:Int)+1<=(m:Int):=by omega
   have hkk:k=m:=by omega
   subst hkk;have E:=qH (fm.free_end L hm);have R:Hid (Made (w.alloc (.cells #[.int .i64 (k:Int),v] 26)) wr _ (srt (freeN k L) (2*k))):=⟨hown,hg⟩;clear hown hg HU CC;generalize srt (freeN k L) (2*k)=M at *;go_wp2;go_ret;exact⟨_,rfl,by rw [qU E];exact Made.low (qU G0) (qU R)⟩
end ff
namespace sp
open bset (withN setOf_snoc)
open Go.Proofs.YtddmmoehlabkiaaGreatDoor.wm
def Fat (Ss:List Nat)(wB w:World)(pv:Value)(F:List Int × Bool)(m n:Nat)(p:List Int):Prop:=Made wB w pv p/\frc Ss n (setOf p) p=F/\p.length+n=m/\49<=n+pc (setOf p)
theorem l04Force (v u:Value)(n:Int)(LL:List (List Int))(L:List Int)(lo hi:Nat)(w:World)(hn:tot LL<=1048576)(hL:L.length<=1048576)(hc:∀ c∈LL,∀ x∈c,okB x=true)(hv:Sls w v LL)(hu:Own lo hi w u L) :
  Calls Tryz.prog 116 #[.agg #[.int .i64 n,v],u] w fun e w'=>∃ r,e=.returned (.tuple #[r,.bool (frc (LL.map setOf) 49 (setOf L) L).2])/\Made w w' r (frc (LL.map setOf) 49 (setOf L) L).1:=by
 have g0:=sl.qA w (.cells #[.int .i64 n,v] 26) none;have F0:=qH (Box.new 26 w (.int .i64 n) v);have G0:=qH g0;have mn:=qH (app.made_nil (w.alloc (.cells #[.int .i64 n,v] 26)));have U0:=qH ((hu.kept g0).kept (qU mn).2);have HV:=qH (hv.kept g0);have HC:=qH hc;obtain⟨ua,uc,eu,_⟩:=hu.sl;subst eu;generalize hF:frc (LL.map setOf) 49 (setOf L) L=F at *;have HF:=qH hF;clear hv hu g0 hc hF;simp only [World.size_alloc] at mn;go_enter Tryz.func116,Tryz.ntmps116;go_wp2_with (at_builtin;refine app.appendI (w:=w.alloc (.cells #[.int .i64 n,v] 26)) (A:=[]) (qU mn).2 (qU mn).1 (qU U0) (by show 0+L.length<=4194304;omega) rfl _ _ rfl rfl rfl ?_)
 intro y w3 m3 g3;have st:Hid (Fat (LL.map setOf) (w.alloc (.cells #[.int .i64 n,v] 26)) w3 y F (L.length+49) 49 L):=⟨m3,qU HF,rfl,by omega⟩;obtain⟨ya,yc,ey,_⟩:=Sl.of_own (show w3.ownsRow _ 3 1 y L.length (ints L) from m3.1);subst ey;clear m3 g3 mn U0;generalize hm:L.length+49=m at *;have hm':m<=1048700:=by omega
 have hmL:L.length+49=m:=hm;clear hm;go_wp2_with fail;go_loopw [6] (fun pv wr=>∃ (q:Nat) (p:List Int),slLen pv+q=m/\Hid (Fat (LL.map setOf) (w.alloc (.cells #[.int .i64 n,v] 26)) wr pv F m q p)) (fun pv _=>m - slLen pv)
 case atStart=>exact⟨49,L,hmL,st⟩
 case round =>
  obtain⟨q,p,hq,ha⟩:=hrel;clear st;obtain⟨md,f1,f2,f3⟩:=qU ha;have hq0:q≠0:=fun e=>by
   have:=pc_le (setOf p);omega
  obtain⟨q',rfl⟩:∃ q',q=q'+1:=⟨q - 1,by omega⟩;have F1:=qH ((qU F0).kept md.2);have y0:=(qU F1).c0;have y1:=(qU F1).c1;have hp:p.length<=2097152:=by omega
  have sl:=sl.Sl.of_own md.1;have CU:=qH (l04Unit v _ n LL p _ hn hp (qU HC) ((qU HV).kept md.2) sl);obtain⟨pa,pcap,ep,_⟩:=sl;have un:=unit_new (Ss:=LL.map setOf) (T:=setOf p) (set_bd LL);have MD:=qH md;cases hok:(unitN (LL.map setOf) (setOf p)).2
  ·have eF:Hid (F=(p,false)):=by
    show F=_;rw [←f1];exact frc_stop hok
   rw [hok] at CU;clear un f1 f2 f3 ha hok md HC HV;subst ep;generalize (unitN (LL.map setOf) (setOf p)).1=x at *;go_wp2_with fail;refine (qU CU).mono ?_;rintro e w4 ⟨rfl,g4⟩;have M4:=qH (made_low (qU G0) (ff.Made.up (qU MD) g4));clear CU g4 y0 y1 F1 MD;go_wp2_with fail;go_ret2;exact⟨_,by rw [qU eF];rfl,by rw [qU eF];exact qU M4⟩
  ·rw [hok] at CU;by_cases hx0:(unitN (LL.map setOf) (setOf p)).1=0
   ·have eF:Hid (F=(p,true)):=by
     show F=_;rw [←f1];exact frc_end hok hx0
    rw [hx0] at CU;clear un f1 f2 f3 ha hok md HC HV hx0;subst ep;go_wp2_with fail;refine (qU CU).mono ?_;rintro e w4 ⟨rfl,g4⟩;have M4:=qH (made_low (qU G0) (ff.Made.up (qU MD) g4));clear CU g4 y0 y1 F1 MD;go_wp2_with fail;go_ret2;exact⟨_,by rw [qU eF];rfl,by rw [qU eF];exact qU M4⟩
   ·have un':=un hok hx0;have eF:=frc_more (n:=q') (p:=p) hok hx0;rw [f1] at eF;have hset:setOf (p++[(unitN (LL.map setOf) (setOf p)).1])=withN (setOf p) (unitN (LL.map setOf) (setOf p)).1:=by rw [setOf_snoc,un'.1];rfl
    have hpc:=pc_with un'.1 un'.2.1;generalize (unitN (LL.map setOf) (setOf p)).1=x at *;rw [←hset] at eF hpc;have FX:=qH eF;have HP:=qH (And.intro f2 (And.intro f3 hpc));have hxz:(x == 0)=false:=by simpa using hx0
    clear un un' f1 f2 f3 ha hok md HC HV hx0 eF hset hpc;subst ep;have hpl:p.length<=2097152:=hp;go_wp2_with fail;refine (qU CU).mono ?_;rintro e w4 ⟨rfl,g4⟩;have M4:=ff.Made.up (qU MD) g4;have m40:=M4.1;have m41:=M4.2;have HM:=qH M4;clear CU g4 y0 y1 F1 MD M4;go_wp2_with (at_builtin;refine wo.append1 m41 m40 (by omega) rfl _ _ rfl rfl rfl ?_);intro v5 w5 R5;have M5:=qH R5;clear m40 m41 R5 HM;obtain⟨va,vc,ev,_⟩:=Sl.of_own (qU M5).1;rw [List.length_append] at ev;have ev':v5=.slice va (p.length+1) vc:=ev;subst ev';have hk:=qU HP;go_wp2_with fail;go_roundw
    case rel=>exact⟨q',p++[x],by show p.length+1+q'=m;omega,qU M5,(qU FX).symm,by rw [List.length_append];show p.length+1+q'=m;omega,by omega⟩
    case measure=>show m - (p.length+1)<m - p.length;omega
theorem frc_len (Ss:List Nat)(n T:Nat)(p:List Int):(frc Ss n T p).1.length<=p.length+n:=by
 induction n generalizing T p with
 | zero=>exact Nat.le_refl _
 | succ n ih =>
  cases hok:(unitN Ss T).2
  ·rw [frc_stop hok];exact Nat.le_add_right _ _
  ·by_cases h0:(unitN Ss T).1=0
   ·rw [frc_end hok h0];exact Nat.le_add_right _ _
   ·rw [frc_more hok h0];have:=ih (withN T (unitN Ss T).1) (p++[(unitN Ss T).1]);rw [List.length_append] at this;simp at this;omega
end sp
namespace sp
def negL (L:List Int):List Int:=L.map fun x=>-x
theorem neg_snoc (L:List Int)(k:Nat)(h:k<L.length):negL (L.take (k+1))=negL (L.take k)++[-(L.getD k 0)]:=by
 unfold negL;rw [List.take_succ_eq_append_getElem h,List.map_append,show L.getD k 0=L[k] by simp [h]];rfl
theorem oppositesOf (v:Value)(L:List Int)(w:World)(hL:L.length<=1048576)(hc:∀ x∈L,okB x=true)(hv:Sl w v L) :
  Calls Tryz.prog 151 #[v] w fun e w'=>∃ r,e=.returned r/\Made w w' r (negL L):=by
 obtain⟨a,cap,rfl,ha⟩:=hv;obtain⟨i0,hi,hz0,hz1,hz2⟩:=info_parts sl.info3;have HA:=qH ha;have HC:=qH hc;clear ha hc;go_enter Tryz.func151,Tryz.ntmps151;go_wp2_with (first | (at_make;refine wpList_make_own _ rfl _ _ 37 rfl w.heap.size 3 i0 (.int .i64 0) 1 Tryz.underlying37 hi hz0 hz1 _ _ _ L.length rfl rfl (by rfl) ?b1 ?b2 ?b3 ?_) | go_in)
 case b1=>rw [hz2];omega
 case b2=>unfold maxLen;omega
 case b3=>exact Nat.le_refl _
 intro w1 hown hgrow;have start:Hid (Made w w1 _ []):=⟨hown,hgrow⟩;clear hown hgrow;go_wp2;go_loopw [3,11] (fun u i wr=>∃ k:Nat,k<=L.length/\i=.int .i64 k/\Hid (Made w wr u (negL (L.take k)))) (fun _ i _=>L.length - (intOf i).toNat)
 case atStart=>exact⟨0,Nat.zero_le _,rfl,start⟩
 case round =>
  obtain⟨k,hk,rfl,hm⟩:=hrel;clear start;by_cases hlt:k<L.length
  ·rcases qU HA with h | ⟨b,off,rfl,hb,hcb⟩
   ·rw [h] at hlt;simp at hlt
   ·obtain⟨hown,hg⟩:=qU hm;have c1:wr.cell? ⟨b,off+k,none⟩=some (.int .i64 (L.getD k 0)):=hg.cell (hcb k hlt) nofun;have hi':(k:Int)<(L.length:Int):=by omega
    have bd:=okB_iff.1 (qU HC (L.getD k 0) (by rw [show L.getD k 0=L[k] by simp [hlt]];exact List.getElem_mem hlt));have H:=qH (neg_snoc L k hlt);have hle:(negL (L.take k)).length<=1048576:=by unfold negL;rw [List.length_map,List.length_take];omega
    generalize L.getD k 0=y at *;generalize negL (L.take k)=M at *;obtain⟨b0,b1,b2⟩:=bd;clear hcb HA HC hm;go_wp2_with (at_builtin;refine wo.append1 hg hown (by omega) rfl _ _ rfl rfl rfl ?_);intro v' w1 R;have M1:=qH R;clear R hown hg;go_wp2;go_roundw
    case rel=>exact⟨k+1,by omega,by go_num,by rw [qU H];exact M1⟩
    case measure=>simp [intOf];omega
  ·have hi':¬ (k:Int)<(L.length:Int):=by omega
   have e:L.take k=L:=List.take_of_length_le (by omega);rw [e] at hm;clear HA e;go_wp2;go_ret;exact⟨_,rfl,qU hm⟩
theorem l04Opposite (v:Value)(L:List Int)(w:World)(hL:L.length<=1048576)(hc:∀ x∈L,okB x=true)(hv:Sl w v L) :
  Calls Tryz.prog 100 #[v] w fun e w'=>∃ r,e=.returned r/\Made w w' r (negL L):=by
 obtain⟨a,cap,rfl,ha⟩:=hv;obtain⟨i0,hi,hz0,hz1,hz2⟩:=info_parts sl.info3;have HA:=qH ha;have HC:=qH hc;clear ha hc;have start:Hid (Made w (w.alloc (.cells #[] 3)) (.slice (some ⟨w.heap.size,0,none⟩) 0 0) []):=app.made_nil w;go_enter Tryz.func100,Tryz.ntmps100;go_wp2;go_loopw [3,4] (fun u i wr=>∃ k:Nat,k<=L.length/\i=.int .i64 k/\Hid (Made w wr u (negL (L.take k)))) (fun _ i _=>L.length - (intOf i).toNat)
 case atStart=>exact⟨0,Nat.zero_le _,rfl,start⟩
 case round =>
  obtain⟨k,hk,rfl,hm⟩:=hrel;clear start;by_cases hlt:k<L.length
  ·rcases qU HA with h | ⟨b,off,rfl,hb,hcb⟩
   ·rw [h] at hlt;simp at hlt
   ·obtain⟨hown,hg⟩:=qU hm;have c1:wr.cell? ⟨b,off+k,none⟩=some (.int .i64 (L.getD k 0)):=hg.cell (hcb k hlt) nofun;have hi':(k:Int)<(L.length:Int):=by omega
    have bd:=okB_iff.1 (qU HC (L.getD k 0) (by rw [show L.getD k 0=L[k] by simp [hlt]];exact List.getElem_mem hlt));have H:=qH (neg_snoc L k hlt);have hle:(negL (L.take k)).length<=1048576:=by unfold negL;rw [List.length_map,List.length_take];omega
    generalize L.getD k 0=y at *;generalize negL (L.take k)=M at *;obtain⟨b0,b1,b2⟩:=bd;clear hcb HA HC hm;go_wp2_with (at_builtin;refine wo.append1 hg hown (by omega) rfl _ _ rfl rfl rfl ?_);intro v' w1 R;have M1:=qH R;clear R hown hg;go_wp2;go_roundw
    case rel=>exact⟨k+1,by omega,by go_num,by rw [qU H];exact M1⟩
    case measure=>simp [intOf];omega
  ·have hi':¬ (k:Int)<(L.length:Int):=by omega
   have e:L.take k=L:=List.take_of_length_le (by omega);rw [e] at hm;clear HA e;go_wp2;go_ret;exact⟨_,rfl,qU hm⟩
end sp
namespace xw
open css (OwnS own_mono)
open wm (frc)
open sp (negL)
open rq (nilS sub_own)
def wlk (n:Int)(LL:List (List Int))(m:Nat)(d:List Int):List (List Int) × Bool :=
 match m with
 | 0=>([],false)
 | m+1 =>
  if (frc (LL.map setOf) 49 (setOf d) d).2=false then ([negL d],true)
  else match freeL n LL (frc (LL.map setOf) 49 (setOf d) d).1 with
   | []=>([],false)
   | x::_ =>
    if (wlk n LL m (d++[-x])).2=false then ([],false)
    else if (wlk n LL (m - (wlk n LL m (d++[-x])).1.length) (d++[x])).2=false then ([],false)
    else ((wlk n LL m (d++[-x])).1++(wlk n LL (m - (wlk n LL m (d++[-x])).1.length) (d++[x])).1++[negL d],true)
theorem wlk_zero (n:Int)(LL:List (List Int))(d:List Int):wlk n LL 0 d=([],false):=by rw [wlk]
theorem wlk_stop {n:Int}{LL:List (List Int)}{m:Nat}{d:List Int}(h:(frc (LL.map setOf) 49 (setOf d) d).2=false):wlk n LL (m+1) d=([negL d],true):=by
 rw [wlk,if_pos h]
theorem wlk_end {n:Int}{LL:List (List Int)}{m:Nat}{d:List Int}(h:(frc (LL.map setOf) 49 (setOf d) d).2=true)(h0:freeL n LL (frc (LL.map setOf) 49 (setOf d) d).1=[]):wlk n LL (m+1) d=([],false):=by
 rw [wlk,if_neg (by rw [h];simp),h0]
theorem wlk_more {n:Int}{LL:List (List Int)}{m:Nat}{d:List Int}{x:Int}{r:List Int}(h:(frc (LL.map setOf) 49 (setOf d) d).2=true)(h0:freeL n LL (frc (LL.map setOf) 49 (setOf d) d).1=x::r) :
  wlk n LL (m+1) d=if (wlk n LL m (d++[-x])).2=false then ([],false)
    else if (wlk n LL (m - (wlk n LL m (d++[-x])).1.length) (d++[x])).2=false then ([],false)
    else ((wlk n LL m (d++[-x])).1++(wlk n LL (m - (wlk n LL m (d++[-x])).1.length) (d++[x])).1++[negL d],true):=by
 rw [wlk,if_neg (by rw [h];simp),h0]
theorem wlk_len (n:Int)(LL:List (List Int)):∀ (K m:Nat) (d:List Int),m<K->(wlk n LL m d).1.length<=m:=by
 intro K
 induction K with
 | zero=>intro m d h;omega
 | succ K ih =>
  intro m d h;cases m with
  | zero=>rw [wlk_zero];exact Nat.le_refl _
  | succ m =>
   cases hf:(frc (LL.map setOf) 49 (setOf d) d).2
   ·rw [wlk_stop hf];simp
   ·cases h0:freeL n LL (frc (LL.map setOf) 49 (setOf d) d).1 with
    | nil=>rw [wlk_end hf h0];simp
    | cons x r =>
     rw [wlk_more hf h0];have h1:=ih m (d++[-x]) (by omega);have h2:=ih (m - (wlk n LL m (d++[-x])).1.length) (d++[x]) (by omega)
     split
     ·simp
     ·split
      ·simp
      ·simp only [List.length_append,List.length_singleton];omega
theorem len_le (n:Int)(LL:List (List Int))(m:Nat)(d:List Int):(wlk n LL m d).1.length<=m:=wlk_len n LL (m+1) m d (Nat.lt_succ_self _)
theorem free_ok {n:Int}{LL:List (List Int)}{L r:List Int}{x:Int}(h:freeL n LL L=x::r):okB x=true/\okB (-x)=true:=by
 have hx:x∈freeL n LL L:=by rw [h];exact List.mem_cons_self ..
 unfold fm.freeL at hx
 split at hx
 ·unfold srt.srt at hx;rw [List.mem_map] at hx;obtain⟨i,hi,rfl⟩:=hx;rw [List.mem_filter,List.mem_range] at hi;have:=(wm.litI_spec hi.1).1;exact⟨this,wm.opp_ok this⟩
 ·cases hx
def WalkE (w:World)(P:List (List Int) × Bool)(e:Ending)(w':World):Prop:=∃ r,e=.returned (.tuple #[r,.bool P.2])/\OwnS w.heap.size w'.heap.size w' r P.1/\w.grownBy w' none
theorem oneS {w w1:World}{u:Value}{L:List Int}(h:Made w w1 u L):OwnS w.heap.size (w1.alloc (.cells #[u] 37)).heap.size (w1.alloc (.cells #[u] 37)) (.slice (some ⟨w1.heap.size,0,none⟩) 1 1) [L]/\w.grownBy (w1.alloc (.cells #[u] 37)) none:=by
 have g:=qT h.2 (sl.qA w1 (.cells #[u] 37) none);have hu:=(Own.of h.1).kept (sl.qA w1 (.cells #[u] 37) none);refine⟨⟨[(u,L)],rfl,World.ownsRow_lit w1 #[u] 1 h.2.size (by decide) rfl,(fun k e=>by cases e;rw [World.size_alloc];exact Nat.lt_succ_self _),?_,List.pairwise_singleton _ _⟩,g⟩;intro p hp;rw [List.mem_singleton] at hp;subst hp;exact⟨hu.1,fun k e=>by rw [World.size_alloc];exact Nat.lt_succ_of_lt (hu.2 k e)⟩
theorem made_nilD (w:World):(w.alloc (.cells #[] 3)).drew.ownsRow w.heap.size 3 1 (.slice (some ⟨w.heap.size,0,none⟩) ([]:List Int).length 0) ([]:List Int).length (ints []):=(app.made_nil w).1
theorem one_own (w:World)(x:Int):Own w.heap.size (w.heap.size+1) (w.alloc (.cells #[.int .i64 x] 3)) (.slice (some ⟨w.heap.size,0,none⟩) 1 1) [x] :=
 ⟨World.ownsRow_lit w #[.int .i64 x] 1 (Nat.le_refl _) (by decide) rfl,fun k e=>by cases e;exact Nat.lt_succ_self _⟩
theorem nil_one (w:World)(x:Int):((w.alloc (.cells #[] 3)).alloc (.cells #[.int .i64 x] 3)).drew.ownsRow w.heap.size 3 1 (.slice (some ⟨w.heap.size,0,none⟩) ([]:List Int).length 0) ([]:List Int).length (ints []) /\
  ∀ w2,((w.alloc (.cells #[] 3)).alloc (.cells #[.int .i64 x] 3)).drew.grownBy w2 (Value.slice (some ⟨w.heap.size,0,none⟩) ([]:List Int).length 0).ownBlock->Own (w.heap.size+1) (w.heap.size+1+1) w2 (.slice (some ⟨w.heap.size+1,0,none⟩) 1 1) [x]:=by
 have h1:=(app.made_nil w).1.alloc (.cells #[.int .i64 x] 3);have h2:=one_own (w.alloc (.cells #[] 3)) x;rw [World.size_alloc] at h2;refine⟨h1,fun w2 g=>?_⟩;exact (h2.kept (cf.grown_drew _ none)).kept_by (lo':=w.heap.size) (hi':=w.heap.size+1) (M:=[]) ⟨h1,fun k e=>by cases e;exact Nat.lt_succ_self _⟩ (.inr (Nat.le_refl _)) g
theorem one_nil (w:World)(x:Int):((w.alloc (.cells #[.int .i64 x] 3)).alloc (.cells #[] 3)).drew.ownsRow w.heap.size 3 1 (.slice (some ⟨w.heap.size+1,0,none⟩) ([]:List Int).length 0) ([]:List Int).length (ints []) /\
  ∀ w2,((w.alloc (.cells #[.int .i64 x] 3)).alloc (.cells #[] 3)).drew.grownBy w2 (Value.slice (some ⟨w.heap.size+1,0,none⟩) ([]:List Int).length 0).ownBlock->Own w.heap.size (w.heap.size+1) w2 (.slice (some ⟨w.heap.size,0,none⟩) 1 1) [x]:=by
 have h1:=(app.made_nil (w.alloc (.cells #[.int .i64 x] 3))).1;rw [World.size_alloc] at h1;have h2:=(one_own w x).kept (sl.qA _ (.cells #[] 3) none);refine⟨own_mono h1 (Nat.le_succ _),fun w2 g=>?_⟩;exact (h2.kept (cf.grown_drew _ none)).kept_by (lo':=w.heap.size+1) (hi':=w.heap.size+1+1) (M:=[]) ⟨h1,fun k e=>by cases e;exact Nat.lt_succ_self _⟩ (.inl (Nat.le_refl _)) g
theorem callA {n:Int}{K m:Nat}{LL:List (List Int)}{d:List Int}{x y z:Int}{vf v2:Value}{w1 w3:World}{A:List (List Int)}{ab:Bool}
  (ih:∀ (m:Nat) (d:List Int) (v u:Value) (lo hi:Nat) (w:World),m<K->(∀ x∈d,okB x=true)->d.length+m<=1000->Sls w v LL->Own lo hi w u d ->
   Calls Tryz.prog 65 #[.agg #[.int .i64 n,v],u,.int .i64 (m:Int)] w fun e w'=>WalkE w (wlk n LL m d) e w')
  (hm:m<K) (hd:∀ x∈d,okB x=true) (hx:okB x=true) (hy:y=x) (hz:z=(m:Int)) (hl:d.length+(m+1)<=1000) (hv:Sls w1 vf LL) (hP:wlk n LL m (d++[x])=(A,ab)) (mm:Made w1 w3 v2 (d++[y])) :
  Calls Tryz.prog 65 #[.agg #[.int .i64 n,vf],v2,.int .i64 z] w3 fun e w'=>∃ a c,e=.returned (.tuple #[.slice a A.length c,.bool ab])/\OwnS w1.heap.size w'.heap.size w' (.slice a A.length c) A/\w1.grownBy w' none:=by
 subst hy hz;have:=ih m (d++[y]) vf v2 w1.heap.size w3.heap.size w3 hm (by intro q hq;rw [List.mem_append,List.mem_singleton] at hq;rcases hq with hq | rfl;exact hd q hq;exact hx) (by rw [List.length_append,List.length_singleton];omega) (hv.kept mm.2) (Own.of mm.1);rw [hP] at this;refine this.mono ?_;rintro e w' ⟨r,rfl,o,g⟩;obtain⟨a,c,rfl⟩:=o.len;exact⟨a,c,rfl,o.sub mm.2.size (Nat.le_refl _),grown_trans mm.2 g⟩
theorem appendJ {ops:Array Oper}{rest:List Oper}{o:Oper}{a:Act}{Q:Exit->Act->World->Prop}{wr:World}{va vb:Value}{A B:List (List Int)}{lo mid mid' hi:Nat}
  (hA:OwnS lo mid wr va A) (hB:OwnS mid' hi wr vb B) (hm:mid<=mid') (hlo:lo<=mid') (hh:hi<=wr.heap.size) (hls:lo<=wr.heap.size) (hl:A.length+B.length<=1048576) (hgd:o.guard=none) (s x:Operand)
  (ho:o.op=.call { callee:=.builtin .append,args:=#[s,x],argTypes:=#[24,24] }) (hs:a.eval s=va) (hx:a.eval x=vb)
  (h:∀ v' w1,OwnS lo w1.heap.size w1 v' (A++B)->wr.grownBy w1 va.ownBlock->wpList Tryz.prog ops Q rest (a.put o.dst v') w1):wpList Tryz.prog ops Q (o::rest) a wr :=
 wpList_plain hgd fun K hK=>app.wpJ hA hB hm hlo hh hls hl s x ho hs hx fun v' w1 o g=>hK _ _ (h v' w1 o g)
theorem tyII:(37:Nat)≠3:=by decide
theorem outer_int {lo hi bD n:Nat}{w:World}{v u:Value}{LL:List (List Int)}{xs:List Value}(h:OwnS lo hi w v LL)(hD:w.ownsRow bD 3 1 u n xs):u.ownBlock=none∨u.ownBlock≠v.ownBlock:=by
 obtain⟨D,e,ho,_⟩:=h;exact rd.apart_types ho hD tyII
theorem wm_len (LL:List (List Int))(d:List Int):(frc (LL.map setOf) 49 (setOf d) d).1.length<=d.length+49:=sp.frc_len _ _ _ _
theorem wrap_in {x:Int}(h1 : -9223372036854775808<=x)(h2:x<9223372036854775808):IntKind.i64.wrap x=x:=by
 rw [IntKind.wrap_i64];omega
theorem lit_wrap {x:Int}(h:okB x=true):IntKind.i64.wrap (-x) = -x:=by
 have:=okB_iff.1 h;exact wrap_in (by omega) (by omega)
theorem walk (n:Int)(LL:List (List Int))(hn:tot LL<=1048576)(hc:cnfB n LL=true)(K:Nat) :
  ∀ (m:Nat) (d:List Int) (v u:Value) (lo hi:Nat) (w:World),m<K->(∀ x∈d,okB x=true)->d.length+m<=1000->Sls w v LL->Own lo hi w u d ->
   Calls Tryz.prog 65 #[.agg #[.int .i64 n,v],u,.int .i64 (m:Int)] w fun e w'=>WalkE w (wlk n LL m d) e w':=by
 have HC:=qH (sp.okU_facts hc)
 induction K with
 | zero=>intro m d v u lo hi w h;omega
 | succ K ih =>
  intro m d v u lo hi w hm hd hl hv hu;have IH:=qH ih;clear ih;have g0:=sl.qA w (.cells #[.int .i64 n,v] 26) none;have F0:=qH (Box.new 26 w (.int .i64 n) v);have G0:=qH g0;have U0:=qH (hu.kept g0);have V0:=qH (hv.kept g0);have HD:=qH hd;have CF:=qH (sp.l04Force v u n LL d lo hi _ hn (by omega) (qU HC) (qU V0) (qU U0));obtain⟨ua,uc,rfl⟩:∃ a c,u=.slice a d.length c:=by
   obtain⟨a,c,e,_⟩:=hu.sl;exact⟨a,c,e⟩
  clear g0 hd hv hu;have x0:=(qU F0).c0;have x1:=(qU F0).c1;cases m with
  | zero =>
   have R:=qH (sub_own (qU G0) (nilS _) (sl.qA _ _ none));rw [show (w.alloc (.cells #[.int .i64 n,v] 26)).heap.size=w.heap.size+1 from World.size_alloc ..] at R;have W:=qH (wlk_zero n LL d);clear CF;go_enter Tryz.func65,Tryz.ntmps65;go_wp2_with fail;go_ret2;rw [qU W];exact⟨_,rfl,qU R⟩
  | succ m =>
   have hi1:¬ ((m+1:Nat):Int)<1:=by omega
   have ST:=qH (fun h=>wlk_stop (n:=n) (LL:=LL) (m:=m) (d:=d) h);have EN:=qH (fun h k=>wlk_end (n:=n) (LL:=LL) (m:=m) (d:=d) h k);have MO:=qH (fun h (x:Int) (r:List Int) k=>wlk_more (n:=n) (LL:=LL) (m:=m) (d:=d) (x:=x) (r:=r) h k);have al:=wm_len LL d;generalize frc (LL.map setOf) 49 (setOf d) d=P at *;obtain⟨all,fine⟩:=P;go_enter Tryz.func65,Tryz.ntmps65;go_wp2_with fail;refine (qU CF).mono ?_;rintro e w1 ⟨r1,rfl,m1⟩;clear CF x0 x1;have G1:=qH (qT (qU G0) m1.2);have F1:=qH ((qU F0).kept m1.2);have U1:=qH ((qU U0).kept m1.2);have V1:=qH ((qU V0).kept m1.2);have CO:=qH (sp.l04Opposite _ d w1 (by omega) (qU HD) (qU U1).sl)
   have CR:=qH (ff.specFree v r1 n LL all w1 hn (by have:all.length<=d.length+49:=al;omega) (qU V1) (Own.of m1.1).sl);clear m1 F0 U0 V0 G0;cases fine
   ·have E:=qH (qU ST (by first | exact rfl | trivial));clear ST EN MO CR;go_wp2_with fail;refine (qU CO).mono ?_;rintro e w2 ⟨r2,rfl,m2⟩;have R:=qH (oneS (⟨own_mono m2.1 (qU G1).size,qT (qU G1) m2.2⟩:Made w w2 r2 (negL d)));obtain⟨ra,rc,rfl⟩:∃ a c,r2=.slice a (negL d).length c:=by
     obtain⟨a,c,e,_⟩:=sl.Sl.of_own m2.1;exact⟨a,c,e⟩
    clear m2 CO;go_wp2_with fail;go_ret2;rw [qU E];exact⟨_,rfl,qU R⟩
   ·have y0:=(qU F1).c0;have y1:=(qU F1).c1;go_wp2_with fail;refine (qU CR).mono ?_;rintro e w2 ⟨r2,rfl,m2⟩;clear CR y0 y1;have G2:=qH (qT (qU G1) m2.2);have F2:=qH ((qU F1).kept m2.2);have U2:=qH ((qU U1).kept m2.2);have V2:=qH ((qU V1).kept m2.2);clear F1 U1 V1 G1 CO;have EN':=qH (fun h=>qU EN (by first | exact rfl | trivial) h);have MO':=qH (fun x r h=>qU MO (by first | exact rfl | trivial) x r h);have FO:=qH (fun x r=>free_ok (n:=n) (LL:=LL) (L:=all) (r:=r) (x:=x));have fl:=fm.freeL_len n LL all;clear EN MO ST;generalize freeL n LL all=FR at *;obtain⟨fa,fc,rfl⟩:∃ a c,r2=.slice a FR.length c:=by
     obtain⟨a,c,e,_⟩:=sl.Sl.of_own m2.1;exact⟨a,c,e⟩
    cases FR with
    | nil =>
     have R:=qH (sub_own (qU G2) (nilS _) (sl.qA _ _ none));have E:=qH (qU EN' rfl);clear m2;go_wp2_with fail;go_ret2;rw [qU E];exact⟨_,rfl,qU R⟩
    | cons x fr =>
     have hxk:=qU FO x fr rfl;have E:=qH (qU MO' x fr rfl);clear EN' MO' FO;obtain⟨g,rfl,cx⟩:∃ g,fa=some ⟨g,0,none⟩/\w2.cell? ⟨g,0,none⟩=some (.int .i64 x):=by
      rcases m2.1.2 with ⟨hv,h0⟩ | ⟨g,cap',cur,hv,_⟩
      ·simp at h0
      ·injection hv with h1 h2 h3;subst h1 h3;refine⟨g,rfl,?_⟩;rw [m2.1.cellAt 0 (by simp)];simp [sl.ints]
     have hgl:g<w2.heap.size:=World.block_lt_of_cell? w2 _ cx;have CX:=qH (fun (w':World) (gg:w2.grownBy w' none)=>gg.cell cx nofun);clear m2;obtain⟨q,hq⟩:∃ q,(x::fr).length=q:=⟨_,rfl⟩;have hq1:1<=q:=by rw [←hq];simp
     rw [hq] at fl ⊢;clear hq;have hq0:((q:Int) == 0)=false:=by rw [beq_eq_false_iff_ne];omega
     have hq2:0<q:=hq1;have HX:=qH hxk;clear hxk;obtain⟨A,ab,hA⟩:∃ A ab,wlk n LL m (d++[-x])=(A,ab):=⟨_,_,rfl⟩;have hAl:A.length<=m:=by have:=len_le n LL m (d++[-x]);rw [hA] at this;exact this
     rw [hA] at E;have HA:=qH hA;clear hA;have z0:=(qU F2).c0;have z1:=(qU F2).c1;go_wp2_with fail
     go_upto_region 9 with fail
     go_cut [11,12] (fun q b wx=>∃ a c,q=.slice a A.length c/\b=.bool ab/\Hid (OwnS w2.heap.size wx.heap.size wx (.slice a A.length c) A)/\Hid (w2.grownBy wx none))
     case first =>
      have hw1:IntKind.i64.wrap (-x) = -x:=lit_wrap (qU HX).1;have CI:=qH (fun v2 w3 (mm:Made w2 w3 v2 (d++[-x]))=>callA (z:=IntKind.i64.wrap (m:Int)) (qU IH) (by omega) (qU HD) (qU HX).2 rfl (wrap_in (by omega) (by omega)) (by omega) (qU V2) (qU HA) mm);have hA1:Hid (w2.grownBy (w2.alloc (.cells #[] 3)).drew none):=qH (grown_trans (sl.qA _ _ none) (cf.grown_drew _ none));have ho1:=qH (made_nilD w2);have hu1:=qH ((qU U2).kept (qU hA1));have hA2:Hid (w2.grownBy ((w2.alloc (.cells #[] 3)).alloc (.cells #[.int .i64 (-x)] 3)).drew none):=qH (grown_trans (qT (sl.qA _ _ none) (sl.qA _ _ none)) (cf.grown_drew _ none))
      have ho2:=qH (nil_one w2 (-x));have hu2:=qH ((qU U2).kept (qU hA2));have hA3:Hid (w2.grownBy ((w2.alloc (.cells #[.int .i64 (-x)] 3)).alloc (.cells #[] 3)).drew none):=qH (grown_trans (qT (sl.qA _ _ none) (sl.qA _ _ none)) (cf.grown_drew _ none));have ho3:=qH (one_nil w2 (-x));have hu3:=qH ((qU U2).kept (qU hA3));have hlw:=(qU F2).lt;have CK:=qH (fun (w':World) (g':w2.grownBy w' none)=>And.intro ((qU F2).kept g').c0 (And.intro ((qU F2).kept g').c1 (qU CX w' g')));have hne:¬ w.heap.size=w2.heap.size:=by omega
      have hne2:¬ w.heap.size=w2.heap.size+1:=by omega
      have hgn:¬ g=w2.heap.size:=by omega
      have hgn2:¬ g=w2.heap.size+1:=by omega
      have hab:Hid (d.length+1<=4194304):=qH (by omega);have hab0:Hid (0+d.length<=4194304):=qH (by omega)
      go_region_held3 (fun w'=>w'.cell? ⟨w.heap.size,0,none⟩=some (.int .i64 n)/\w'.cell? ⟨w.heap.size,1,none⟩=some v/\w'.cell? ⟨g,0,none⟩=some (.int .i64 x)) (go_keep) (first
        | (go_at_call 65;refine (qU CI _ _ (qU M3)).mono ?_;rintro e w6 ⟨a6,c6,rfl,o6,g6⟩;have O6:=qH o6;have G6:=qH g6;obtain⟨t1,t2,t3⟩:=qU CK _ g6;clear o6 g6)
        | (refine app.stepI (A:=[]) (qU hA1) (qU ho1) (qU hu1) (qU hab0) (by rfl) _ _ (by rfl) (by rfl) (by rfl) ?_;intro v4 w4 m4 g4;have M2:Hid (Made w2 w4 v4 d):=qH m4;obtain⟨q1,q2,q3⟩:=qU CK _ (qU M2).2;have ne2:=World.new_ne w4 _ q1;have ne3:=World.new_ne w4 _ q3;clear m4 g4)
        | (refine app.stepI (A:=[]) (qU hA2) (qU ho2).1 (qU hu2) (qU hab0) (by rfl) _ _ (by rfl) (by rfl) (by rfl) ?_;intro v4 w4 m4 g4;have M2:Hid (Made w2 w4 v4 d):=qH m4;have XB:=qH ((qU ho2).2 w4 g4);obtain⟨q1,q2,q3⟩:=qU CK _ (qU M2).2;have ne2:=World.new_ne w4 _ q1;have ne3:=World.new_ne w4 _ q3;clear m4 g4)
        | (refine app.stepI (A:=[]) (qU hA3) (qU ho3).1 (qU hu3) (qU hab0) (by rfl) _ _ (by rfl) (by rfl) (by rfl) ?_;intro v4 w4 m4 g4;have M2:Hid (Made w2 w4 v4 d):=qH m4;have XB:=qH ((qU ho3).2 w4 g4);obtain⟨q1,q2,q3⟩:=qU CK _ (qU M2).2;have ne2:=World.new_ne w4 _ q1;have ne3:=World.new_ne w4 _ q3;clear m4 g4)
        | (refine app.stepI (qU M2).2 (qU M2).1 (qU XB) (qU hab) (by rfl) _ _ (by rfl) (by rfl) (by rfl) ?_;intro v5 w5 m5 g5;have M3:=qH m5;obtain⟨p1,p2,p3⟩:=qU CK _ m5.2;clear m5 g5)
        | (refine app.stepI (grown_trans (qU M2).2 (sl.qA w4 (.cells #[.int .i64 (-x)] 3) none)) ((qU M2).1.alloc _) (one_own w4 (-x)) (qU hab) (by rfl) _ _ (by rfl) (by rfl) (by rfl) ?_;intro v5 w5 m5 g5;have M3:=qH m5;obtain⟨p1,p2,p3⟩:=qU CK _ m5.2;clear m5 g5))
      all_goals (go_wp2_with fail;go_meet;exact⟨a6,c6,rfl,rfl,O6,G6⟩)
     case rest =>
      obtain⟨a6,c6,rfl,rfl,oo,gg⟩:=hcut;cases ab
      ·have E2:=qU E;rw [if_pos rfl] at E2;have E3:=qH E2;have R:=qH (sub_own (qT (qU G2) (qU gg)) (nilS _) (sl.qA _ _ none));clear E E2;go_wp2_with fail;go_ret2;rw [qU E3];exact⟨_,rfl,qU R⟩
      ·have E2:=qU E;rw [if_neg (by simp)] at E2;obtain⟨B,bb,hB⟩:∃ B bb,wlk n LL (m - A.length) (d++[x])=(B,bb):=⟨_,_,rfl⟩;have hBl:B.length<=m - A.length:=by have:=len_le n LL (m - A.length) (d++[x]);rw [hB] at this;exact this
       rw [show wlk n LL (m - ((A,true):List (List Int) × Bool).1.length) (d++[x])=(B,bb) from hB] at E2;have E3:=qH E2;have HB:=qH hB;clear E E2 hB z0 z1;have U3:=qH ((qU U2).kept (qU gg));have V3:=qH ((qU V2).kept (qU gg));have F3:=qH ((qU F2).kept (qU gg));have G3:=qH (qT (qU G2) (qU gg));have z0:=(qU F3).c0;have z1:=(qU F3).c1;have cx3:=qU CX _ (qU gg);go_wp2_with fail
       go_upto_region 12 with fail
       go_cut [13,14] (fun q b wx=>∃ a c,q=.slice a B.length c/\b=.bool bb/\Hid (OwnS wc.heap.size wx.heap.size wx (.slice a B.length c) B)/\Hid (wc.grownBy wx none))
       case first =>
         have CI:=qH (fun v2 w3 (mm:Made wc w3 v2 (d++[x]))=>callA (z:=IntKind.i64.wrap (IntKind.i64.wrap (m:Int) - (A.length:Int))) (qU IH) (by omega) (qU HD) (qU HX).1 rfl (by rw [wrap_in (x:=(m:Int)) (by omega) (by omega),wrap_in (by omega) (by omega)];omega) (by omega) (qU V3) (qU HB) mm);have hA1:Hid (wc.grownBy (wc.alloc (.cells #[] 3)).drew none):=qH (grown_trans (sl.qA _ _ none) (cf.grown_drew _ none));have ho1:=qH (made_nilD wc);have hu1:=qH ((qU U3).kept (qU hA1));have hA2:Hid (wc.grownBy ((wc.alloc (.cells #[] 3)).alloc (.cells #[.int .i64 x] 3)).drew none):=qH (grown_trans (qT (sl.qA _ _ none) (sl.qA _ _ none)) (cf.grown_drew _ none))
         have ho2:=qH (nil_one wc x);have hu2:=qH ((qU U3).kept (qU hA2));have hA3:Hid (wc.grownBy ((wc.alloc (.cells #[.int .i64 x] 3)).alloc (.cells #[] 3)).drew none):=qH (grown_trans (qT (sl.qA _ _ none) (sl.qA _ _ none)) (cf.grown_drew _ none));have ho3:=qH (one_nil wc x);have hu3:=qH ((qU U3).kept (qU hA3));have hlw:=(qU F3).lt;have CK:=qH (fun (w':World) (g':wc.grownBy w' none)=>And.intro ((qU F3).kept g').c0 (And.intro ((qU F3).kept g').c1 (qU CX w' (qT (qU gg) g'))));have hne:¬ w.heap.size=wc.heap.size:=by omega
         have hne2:¬ w.heap.size=wc.heap.size+1:=by omega
         have hgc:g<wc.heap.size:=World.block_lt_of_cell? wc _ (qU CX wc (qU gg));have hgn:¬ g=wc.heap.size:=by omega
         have hgn2:¬ g=wc.heap.size+1:=by omega
         have hab:Hid (d.length+1<=4194304):=qH (by omega);have hab0:Hid (0+d.length<=4194304):=qH (by omega)
         go_region_held3 (fun w'=>w'.cell? ⟨w.heap.size,0,none⟩=some (.int .i64 n)/\w'.cell? ⟨w.heap.size,1,none⟩=some v/\w'.cell? ⟨g,0,none⟩=some (.int .i64 x)) (go_keep) (first
           | (go_at_call 65;refine (qU CI _ _ (qU M3)).mono ?_;rintro e w6 ⟨a6,c6,rfl,o6,g6⟩;have O6:=qH o6;have G6:=qH g6;obtain⟨t1,t2,t3⟩:=qU CK _ g6;clear o6 g6)
           | (refine app.stepI (A:=[]) (qU hA1) (qU ho1) (qU hu1) (qU hab0) (by rfl) _ _ (by rfl) (by rfl) (by rfl) ?_;intro v4 w4 m4 g4;have M2:Hid (Made wc w4 v4 d):=qH m4;obtain⟨q1,q2,q3⟩:=qU CK _ (qU M2).2;have ne2:=World.new_ne w4 _ q1;have ne3:=World.new_ne w4 _ q3;clear m4 g4)
           | (refine app.stepI (A:=[]) (qU hA2) (qU ho2).1 (qU hu2) (qU hab0) (by rfl) _ _ (by rfl) (by rfl) (by rfl) ?_;intro v4 w4 m4 g4;have M2:Hid (Made wc w4 v4 d):=qH m4;have XB:=qH ((qU ho2).2 w4 g4);obtain⟨q1,q2,q3⟩:=qU CK _ (qU M2).2;have ne2:=World.new_ne w4 _ q1;have ne3:=World.new_ne w4 _ q3;clear m4 g4)
           | (refine app.stepI (A:=[]) (qU hA3) (qU ho3).1 (qU hu3) (qU hab0) (by rfl) _ _ (by rfl) (by rfl) (by rfl) ?_;intro v4 w4 m4 g4;have M2:Hid (Made wc w4 v4 d):=qH m4;have XB:=qH ((qU ho3).2 w4 g4);obtain⟨q1,q2,q3⟩:=qU CK _ (qU M2).2;have ne2:=World.new_ne w4 _ q1;have ne3:=World.new_ne w4 _ q3;clear m4 g4)
           | (refine app.stepI (qU M2).2 (qU M2).1 (qU XB) (qU hab) (by rfl) _ _ (by rfl) (by rfl) (by rfl) ?_;intro v5 w5 m5 g5;have M3:=qH m5;obtain⟨p1,p2,p3⟩:=qU CK _ m5.2;clear m5 g5)
           | (refine app.stepI (grown_trans (qU M2).2 (sl.qA w4 (.cells #[.int .i64 x] 3) none)) ((qU M2).1.alloc _) (one_own w4 x) (qU hab) (by rfl) _ _ (by rfl) (by rfl) (by rfl) ?_;intro v5 w5 m5 g5;have M3:=qH m5;obtain⟨p1,p2,p3⟩:=qU CK _ m5.2;clear m5 g5))
         all_goals (go_wp2_with fail;go_meet;exact⟨a6,c6,rfl,rfl,O6,G6⟩)
       case rest =>
        obtain⟨a7,c7,rfl,rfl,ob,gb⟩:=hcut;cases bb
        ·have E4:=qU E3;rw [if_pos rfl] at E4;have E5:=qH E4;have R:=qH (sub_own (qT (qU G3) (qU gb)) (nilS _) (sl.qA _ _ none));clear E3 E4;go_wp2_with fail;go_ret2;rw [qU E5];exact⟨_,rfl,qU R⟩
        ·have E4:=qU E3;rw [if_neg (by simp)] at E4;have E5:=qH E4;clear E3 E4;have O7:=qH (((qU oo).kept (qU gb)).sub (qU G2).size (Nat.le_refl _));have U4:=qH ((qU U3).kept (qU gb));have hsz:=qH (qU gb).size;have hsc:=qH (qU G3).size;have G4:=qH (qT (qU G3) (qU gb));have hab9:Hid (A.length+B.length<=1048576):=qH (by omega);clear z0 z1 cx3 oo gg;go_wp2_with (at_builtin;refine appendJ (qU O7) (qU ob) (Nat.le_refl _) (qU hsc) (Nat.le_refl _) (qU G4).size (qU hab9) rfl _ _ rfl rfl rfl ?_);intro v8 w8 o8 g8;have O8:=qH o8;have G8:=qH (app.grown_joinS (qU G4) (qU O7) g8);have U8:=qH (show Own lo hi w8 _ d from ⟨World.ownsRow.kept (qU U4).1 g8 (outer_int (qU O7) (qU U4).1),(qU U4).2⟩)
         have CO:=qH (sp.l04Opposite _ d w8 (by omega) (qU HD) (qU U8).sl);have hML:Hid ((A++B).length<=1048576):=qH (by rw [List.length_append];omega);generalize A++B=AB at *;obtain⟨a8,c8,rfl⟩:=(qU O8).len;clear o8 g8;go_wp2_with fail;refine (qU CO).mono ?_;rintro e w9 ⟨r9,rfl,m9⟩;have Y9:=qH (Own.of m9.1);have K9:=qH m9.2;have O9:=qH ((qU O8).kept m9.2);have G9:=qH (qT (qU G8) m9.2);obtain⟨ra,rc,rfl⟩:∃ a c,r9=.slice a (negL d).length c:=by
          obtain⟨a,c,e,_⟩:=sl.Sl.of_own m9.1;exact⟨a,c,e⟩
         clear m9 CO;go_wp2_with (at_builtin;refine gr.appendR (qU O9) (qU Y9) (qU G8).size (qU K9).size (qU hML) rfl _ _ rfl rfl rfl ?_);intro g10 c10 w10 o10 gr10;have R:=qH (And.intro o10 (app.grown_appS (lo:=0) (qU G9) (qU O9) gr10));clear o10 gr10;go_wp2_with fail;go_ret2;rw [qU E5];exact⟨_,rfl,qU R⟩
theorem specRefute (v:Value)(n:Int)(LL:List (List Int))(w:World)(hn:tot LL<=1048576)(hv:Sls w v LL) :
  Calls Tryz.prog 30 #[.agg #[.int .i64 n,v]] w fun e w'=>WalkE w (if cnfB n LL then wlk n LL 700 [] else ([],false)) e w':=by
 have g0:=sl.qA w (.cells #[.int .i64 n,v] 26) none;have F0:=qH (Box.new 26 w (.int .i64 n) v);have G0:=qH g0;have V0:=qH (hv.kept g0);have cc:=ok.specCnfOk v n LL _ hn (hv.kept g0);clear g0 hv;have x0:=(qU F0).c0;have x1:=(qU F0).c1;cases hc:cnfB n LL
 ·rw [hc] at cc;have CC:=qH cc;clear cc hc;go_enter Tryz.func30,Tryz.ntmps30;go_wp2_with fail;refine (qU CC).mono ?_;rintro e w2 ⟨rfl,g2⟩;have R:=qH (sub_own (qT (qU G0) g2) (nilS _) (sl.qA _ _ none));clear g2 x0 x1;go_wp2_with fail;go_ret2;exact⟨_,rfl,qU R⟩
 ·rw [hc] at cc;have CC:=qH cc;have WK:=qH (walk n LL hn hc 701 700 [] v);clear cc hc;go_enter Tryz.func30,Tryz.ntmps30;go_wp2_with fail;refine (qU CC).mono ?_;rintro e w2 ⟨rfl,g2⟩;have G2:=qH (qT (qU G0) g2);have y0:=((qU F0).kept g2).c0;have y1:=((qU F0).kept g2).c1;have mn:=app.made_nil w2;have WW:=qH (qU WK _ _ _ _ (by omega) (by intro x hx;cases hx) (by show 0+700<=1000;omega) (((qU V0).kept g2).kept mn.2) (Own.of mn.1));have GN:=qH mn.2;have hlt:=((qU F0).kept g2).lt;have hne:¬ w.heap.size=w2.heap.size:=by omega
  clear g2 x0 x1 mn CC;go_wp2_with fail;refine (qU WW).mono ?_;rintro e w3 ⟨r3,rfl,o3,g3⟩;have R:=qH (sub_own (qT (qU G2) (qU GN)) o3 g3);clear o3 g3 y0 y1;go_wp2_with fail;go_ret2;exact⟨_,rfl,qU R⟩
end xw
namespace sp
open ok (clB)
open Go.Proofs.YtddmmoehlabkiaaGreatDoor.wm
theorem cl_ok {n:Int}{L:List Int}(h:clB n L=true):∀ x∈L,okB x=true:=by
 unfold ok.clB at h;rw [Bool.and_eq_true,List.all_eq_true] at h;intro x hx;have:=h.1 x hx;unfold ok.litIn at this;rw [Bool.and_eq_true] at this;exact this.1
end sp
end Go.Proofs.YtddmmoehlabkiaaGreatDoor
