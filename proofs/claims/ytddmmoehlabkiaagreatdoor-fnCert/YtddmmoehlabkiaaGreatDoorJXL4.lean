/- What the model's l04Lits, l04Clause (whether a clause is empty) and l05Open answer; no condition but that the clauses hold literals, and on the sizes. -/
import Derived.Test.YtddmmoehlabkiaaGreatDoorJOn
import Derived.Test.YtddmmoehlabkiaaGreatDoorJXSlw
namespace Go.Proofs.YtddmmoehlabkiaaGreatDoor
set_option linter.unusedVariables false
set_option maxRecDepth 100000
open Go.ChangeShapes Go.WideShapes Go.ChangeAt Go.RowKit
open sl (qH qU qT)
set_option maxHeartbeats 4000000
namespace l4
open lits (okB varI okB_iff)
open cls (hasB)
open css (Sls tot)
open cf (Box)
open ok (litIn all_hit all_step all_end)
open sl (Sl ret_bool grown_refl grown_trans grown_drewN)
theorem l04Lits (v u:Value)(n:Int)(L:List Int)(w:World)(hL:L.length<=1048576)(hu:Sl w u L) :
  Calls Tryz.prog 94 #[.agg #[.int .i64 n,v],u] w fun e w'=>e=.returned (.bool (L.all (litIn n)))/\w.grownBy w' none:=by
 have g0:=sl.qA w (.cells #[.int .i64 n,v] 26) none;have F0:=qH (Box.new 26 w (.int .i64 n) v);have G0:=qH g0;have HU:=qH (hu.kept g0 (.inl rfl));obtain⟨a,cap,rfl,_⟩:=hu;clear g0;go_enter Tryz.func94,Tryz.ntmps94;go_wp2;go_loopw [5] (fun i wr=>∃ k:Nat,k<=L.length/\i=.int .i64 k/\Hid ((L.take k).all (litIn n)=true)/\Hid ((w.alloc (.cells #[.int .i64 n,v] 26)).grownBy wr none)) (fun i _=>L.length - (intOf i).toNat)
 case atStart=>exact⟨0,Nat.zero_le _,rfl,(by show _=_;simp),grown_refl _⟩
 case round =>
  obtain⟨k,hk,rfl,hall,hg⟩:=hrel;have GW:=qH (qT (qU G0) (qU hg));have F1:=qH ((qU F0).kept (qU hg));have y0:=(qU F1).c0;have y1:=(qU F1).c1;by_cases hlt:k<L.length
  ·have hs:=(qU HU).kept (qU hg) (.inl rfl);obtain⟨a',c',e',hcells⟩:=hs;simp only [Value.slice.injEq] at e';obtain⟨rfl,_,rfl⟩:=e';rcases hcells with h | ⟨b,off,rfl,hb,hcb⟩
   ·rw [h] at hlt;simp at hlt
   ·have c1:=hcb k hlt;have hi':(k:Int)<(L.length:Int):=by omega
    have h1:=all_hit (litIn n) L k 0 hlt;have h2:=all_step (litIn n) L k 0 hlt (qU hall);generalize L.getD k 0=x at *;have cx:=lits.specLitOk x;have cv:=lits.specLitVar x;cases hx:okB x
    ·rw [hx] at cx;have CX:=qH cx;have H:=qH (h1 (by unfold ok.litIn;rw [hx];rfl));clear cx cv h1 h2 hx hcb hall F0 F1 HU;go_wp2
     go_quiet (first | (go_at_call 118;refine Calls.quiet_of_same (qU CX _)))
     go_wp2;go_ret;exact⟨ret_bool (qU H).symm,grown_trans (qU GW) (grown_drewN _ _)⟩
    ·rw [hx] at cx;have CX:=qH cx;have CV:=qH cv;by_cases hq:varI x<=n
     ·have H:=qH (h2 (by unfold ok.litIn;rw [hx,decide_eq_true hq];rfl));clear cx cv h1 h2 hx hcb hall F1 HU;generalize varI x=y at *;have hq':decide (n<y)=false:=decide_eq_false (by omega);go_wp2
      go_quiet (first | (go_at_call 118;exact (qU CX _).mono (fun _ _ h=>⟨h.1,_,h.2⟩)) | (go_at_call 138;exact (qU CV _).mono (fun _ _ h=>⟨h.1,_,h.2⟩)))
      go_wp2;go_roundw
      case rel=>exact⟨k+1,by omega,by go_num,H,grown_trans (qU hg) (grown_drewN _ _)⟩
      case measure=>simp [intOf];omega
     ·have H:=qH (h1 (by unfold ok.litIn;rw [decide_eq_false hq,Bool.and_false]));clear cx cv h1 h2 hx hcb hall F1 HU;generalize varI x=y at *;have hq':n<y:=by omega
      go_wp2
      go_quiet (first | (go_at_call 118;exact (qU CX _).mono (fun _ _ h=>⟨h.1,_,h.2⟩)) | (go_at_call 138;exact (qU CV _).mono (fun _ _ h=>⟨h.1,_,h.2⟩)))
      go_wp2;go_ret;exact⟨ret_bool (qU H).symm,grown_trans (qU GW) (grown_drewN _ _)⟩
  ·have hi':¬ (k:Int)<(L.length:Int):=by omega
   have HR:=qH (all_end (litIn n) L k hlt (qU hall));clear HU hall;go_wp2;go_ret;exact⟨ret_bool (qU HR).symm,qU GW⟩
def emptyB (A c:List Int):Bool:=c.all (fun x=>hasB A (-x)) && !c.any (hasB A)
theorem em_closed {A c:List Int}{x:Int}(hx:x∈c)(h:hasB A x=true):emptyB A c=false:=by
 unfold emptyB;rw [show c.any (hasB A)=true from List.any_eq_true.2 ⟨x,hx,h⟩];simp
theorem em_open {A c:List Int}{x:Int}(hx:x∈c)(h:hasB A (-x)=false):emptyB A c=false:=by
 unfold emptyB;rw [show c.all (fun x=>hasB A (-x))=false from List.all_eq_false.2 ⟨x,hx,by rw [h];decide⟩];rfl
theorem em_none {A c:List Int}(hn:c.any (hasB A)=false)(h:∀ x∈c,hasB A (-x)=true):emptyB A c=true:=by
 unfold emptyB;rw [hn,List.all_eq_true.2 h];rfl
def Sofar (A c:List Int)(k:Nat)(o:Int):Prop:=(o=0/\∀ x∈c.take k,hasB A (-x)=true)∨(o∈c.take k/\hasB A (-o)=false/\∀ x∈c.take k,hasB A (-x)=true∨x=o)
theorem take_mem {c:List Int}{k:Nat}(h:k<c.length){x:Int}:x∈c.take (k+1)↔x∈c.take k∨x=c.getD k 0:=by
 rw [List.take_succ_eq_append_getElem h,List.mem_append,List.mem_singleton,show c.getD k 0=c[k] by simp [h]]
theorem l04Clause (v u:Value)(c A:List Int)(w:World)(hC:c.length<=1048576)(hA:A.length<=2097152)(hc:∀ x∈c,okB x=true)(hv:Sl w v c)(hu:Sl w u A) :
  Calls Tryz.prog 171 #[v,u] w fun e w'=>∃ r:Int,e=.returned (.int .i64 r)/\((r == -100)=emptyB A c)/\w'=w:=by
 have CH:=qH (fun x=>slw.specClauseHas u A x w hA hu);have HC:=qH hc;obtain⟨a,cap,rfl,ha⟩:=hv;have HV:=qH ha;clear ha hu hc;go_enter Tryz.func171,Tryz.ntmps171;go_wp2;go_loop [6] (fun i=>∃ k:Nat,k<=c.length/\i=.int .i64 k/\Hid ((c.take k).any (hasB A)=false)) (fun i=>c.length - (intOf i).toNat)
 case atStart=>exact⟨0,Nat.zero_le _,rfl,by show _=_;simp⟩
 case round =>
  obtain⟨k,hk,rfl,hall⟩:=hrel;by_cases hlt:k<c.length
  ·rcases qU HV with h | ⟨b,off,rfl,hb,hcb⟩
   ·rw [h] at hlt;simp at hlt
   ·have c1:=hcb k hlt;have hi':(k:Int)<(c.length:Int):=by omega
    have h2:=tr.any_step (hasB A) c k 0 hlt (qU hall);have hm:c.getD k 0∈c:=by rw [show c.getD k 0=c[k] by simp [hlt]];exact List.getElem_mem hlt
    generalize c.getD k 0=x at *;have ch:=qU CH x;cases hx:hasB A x
    ·rw [hx] at ch;have C2:=qH ch;have H:=qH (h2 hx);clear ch h2 hx hcb hall HV CH hm;go_wp2_with (go_at_call 139;refine (qU C2).mono ?_;rintro e w' ⟨rfl,rfl⟩)
     go_round
     case rel=>exact⟨k+1,by omega,by go_num,H⟩
     case measure=>simp [intOf];omega
    ·rw [hx] at ch;have C2:=qH ch;have H:=qH (em_closed hm hx);clear ch h2 hx hcb hall HV CH hm;go_wp2_with (go_at_call 139;refine (qU C2).mono ?_;rintro e w' ⟨rfl,rfl⟩);go_ret;exact⟨0,rfl,by rw [qU H];rfl,rfl⟩
  ·have hi':¬ (k:Int)<(c.length:Int):=by omega
   have HN:=qH (tr.any_end (hasB A) c k hlt (qU hall));clear hall;go_wp2;clear hi' hlt hk;go_loop [5,7] (fun o i=>∃ (k:Nat) (y:Int),k<=c.length/\i=.int .i64 k/\o=.int .i64 y/\-24<=y/\y<=24/\Hid (Sofar A c k y)) (fun _ i=>c.length - (intOf i).toNat)
   case atStart=>exact⟨0,0,Nat.zero_le _,rfl,rfl,by decide,by decide,.inl ⟨rfl,fun x hx=>by simp at hx⟩⟩
   case round =>
    obtain⟨k,y,hk,rfl,rfl,y1,y2,hall⟩:=hrel;by_cases hlt:k<c.length
    ·rcases qU HV with h | ⟨b,off,rfl,hb,hcb⟩
     ·rw [h] at hlt;simp at hlt
     ·have c1:=hcb k hlt;have hi':(k:Int)<(c.length:Int):=by omega
      have hm:c.getD k 0∈c:=by rw [show c.getD k 0=c[k] by simp [hlt]];exact List.getElem_mem hlt
      have tm:=fun z=>take_mem hlt (x:=z);generalize c.getD k 0=x at *;have okx:=qU HC x hm;have bd:=okB_iff.1 okx;have ch:=qU CH (-x);obtain⟨b0,b1,b2⟩:=bd;cases hx:hasB A (-x)
      ·rw [hx] at ch;have C2:=qH ch;by_cases hxy:x=y
       ·have H:Hid (Sofar A c (k+1) y):=by
         rcases qU hall with ⟨q1,q2⟩ | ⟨q1,q2,q3⟩
         ·omega
         ·exact .inr ⟨(tm y).2 (.inl q1),q2,fun z hz=>by
           rcases (tm z).1 hz with e | e
           ·exact q3 z e
           ·exact .inr (e.trans hxy)⟩
        subst hxy;have he:(x == x)=true:=by simp
        clear ch hx hcb hall HV CH hm tm okx;go_wp2_with (go_at_call 139;refine (qU C2).mono ?_;rintro e w' ⟨rfl,rfl⟩)
        go_round
        case rel=>exact⟨k+1,x,by omega,by go_num,rfl,y1,y2,H⟩
        case measure=>simp [intOf];omega
       ·have he:(x == y)=false:=by simpa using hxy
        by_cases hy0:y=0
        ·subst hy0;have H:Hid (Sofar A c (k+1) x):=by
          rcases qU hall with ⟨q1,q2⟩ | ⟨q1,q2,q3⟩
          ·exact .inr ⟨(tm x).2 (.inr rfl),hx,fun z hz=>by
            rcases (tm z).1 hz with e | e
            ·exact .inl (q2 z e)
            ·exact .inr e⟩
          ·have:=okB_iff.1 (qU HC 0 (List.mem_of_mem_take q1));omega
         clear ch hx hcb hall HV CH hm tm okx hxy;go_wp2_with (go_at_call 139;refine (qU C2).mono ?_;rintro e w' ⟨rfl,rfl⟩)
         go_round
         case rel=>exact⟨k+1,x,by omega,by go_num,rfl,b1,b2,H⟩
         case measure=>simp [intOf];omega
        ·have hy0':(y != 0)=true:=by simpa using hy0
         have H:Hid (emptyB A c=false):=em_open hm hx;clear ch hx hcb hall HV CH hm tm okx hxy;go_wp2_with (go_at_call 139;refine (qU C2).mono ?_;rintro e w' ⟨rfl,rfl⟩);go_ret;exact⟨0,rfl,by rw [qU H];rfl,rfl⟩
      ·rw [hx] at ch;have C2:=qH ch;have H:Hid (Sofar A c (k+1) y):=by
        rcases qU hall with ⟨q1,q2⟩ | ⟨q1,q2,q3⟩
        ·exact .inl ⟨q1,fun z hz=>by
          rcases (tm z).1 hz with e | e
          ·exact q2 z e
          ·rw [e];exact hx⟩
        ·exact .inr ⟨(tm y).2 (.inl q1),q2,fun z hz=>by
          rcases (tm z).1 hz with e | e
          ·exact q3 z e
          ·rw [e];exact .inl hx⟩
       clear ch hx hcb hall HV CH hm tm okx;go_wp2_with (go_at_call 139;refine (qU C2).mono ?_;rintro e w' ⟨rfl,rfl⟩)
       go_round
       case rel=>exact⟨k+1,y,by omega,by go_num,rfl,y1,y2,H⟩
       case measure=>simp [intOf];omega
    ·have hi':¬ (k:Int)<(c.length:Int):=by omega
     have et:c.take k=c:=List.take_of_length_le (by omega);have hs:=qU hall;unfold Sofar at hs;rw [et] at hs;by_cases hy0:y=0
     ·subst hy0;have H:Hid (emptyB A c=true):=by
       rcases hs with ⟨q1,q2⟩ | ⟨q1,q2,q3⟩
       ·exact em_none (qU HN) q2
       ·have:=okB_iff.1 (qU HC 0 q1);omega
      clear HV CH hall hs et;go_wp2;go_ret;exact⟨-100,rfl,by rw [qU H];rfl,rfl⟩
     ·have hy0':(y == 0)=false:=by simpa using hy0
      have H:Hid (emptyB A c=false):=by
       rcases hs with ⟨q1,q2⟩ | ⟨q1,q2,q3⟩
       ·exact absurd q1 hy0
       ·exact em_open q1 q2
      clear HV CH hall hs et;go_wp2;go_ret;exact⟨y,rfl,by rw [qU H];exact beq_eq_false_iff_ne.2 (by omega),rfl⟩
def openB (LL:List (List Int))(A:List Int):Bool:=LL.all fun c=>!emptyB A c
theorem l05Open (v u:Value)(n:Int)(LL:List (List Int))(A:List Int)(w:World)(hn:tot LL<=1048576)(hA:A.length<=2097152)(hc:∀ c∈LL,∀ x∈c,okB x=true)(hv:Sls w v LL)(hu:Sl w u A) :
  Calls Tryz.prog 140 #[.agg #[.int .i64 n,v],u] w fun e w'=>e=.returned (.bool (openB LL A))/\w.grownBy w' none:=by
 have hl:=Nat.le_trans (css.tot_len LL) hn;have hin:∀ i,(LL.getD i []).length<=1048576:=fun i=>Nat.le_trans (css.tot_in LL i) hn;have g0:=sl.qA w (.cells #[.int .i64 n,v] 26) none;have F0:=qH (Box.new 26 w (.int .i64 n) v);have HU:=qH (hu.kept g0 (.inl rfl));have HV:=qH (hv.kept g0);have HC:=qH hc;have HI:=qH hin;have G0:=qH g0;obtain⟨a,cap,rfl,_⟩:=hv;clear g0 hu hc hin;go_enter Tryz.func140,Tryz.ntmps140;go_wp2;go_loop [5] (fun i=>∃ k:Nat,k<=LL.length/\i=.int .i64 k/\Hid ((LL.take k).all (fun c=>!emptyB A c)=true)) (fun i=>LL.length - (intOf i).toNat)
 case atStart=>exact⟨0,Nat.zero_le _,rfl,by show _=_;simp⟩
 case round =>
  obtain⟨k,hk,rfl,hall⟩:=hrel;have y0:=(qU F0).c0;have y1:=(qU F0).c1;by_cases hlt:k<LL.length
  ·obtain⟨a',cap',e',ha⟩:=qU HV;simp only [Value.slice.injEq] at e';obtain⟨rfl,_,rfl⟩:=e';rcases ha with h | ⟨b,off,rfl,hb,hcb⟩
   ·rw [h] at hlt;simp at hlt
   ·obtain⟨q,hq,hs⟩:=hcb k hlt;have hi':(k:Int)<(LL.length:Int):=by omega
    have h1:=all_hit (fun c=>!emptyB A c) LL k [] hlt;have h2:=all_step (fun c=>!emptyB A c) LL k [] hlt (qU hall);have hm:LL.getD k []∈LL:=by rw [show LL.getD k []=LL[k] by simp [hlt]];exact List.getElem_mem hlt
    have hL:=qU HI k;have okc:=qU HC _ hm;generalize LL.getD k []=L at *;have C:=qH (l04Clause q u L A _ hL hA okc hs (qU HU));clear hcb hall HV HU hs okc hm HC HI;cases hb:emptyB A L
    ·have H:=qH (h2 (by rw [hb];rfl));rw [hb] at C;clear h1 h2 hb;go_wp2_with fail;refine (qU C).mono ?_;rintro e w' ⟨r,rfl,hr,hw⟩;have hw':=hw.symm;clear hw;subst hw';go_wp2_with fail
     go_round
     case rel=>exact⟨k+1,by omega,by go_num,H⟩
     case measure=>simp [intOf];omega
    ·have H:=qH (h1 (by rw [hb];rfl));rw [hb] at C;clear h1 h2 hb;go_wp2_with fail;refine (qU C).mono ?_;rintro e w' ⟨r,rfl,hr,hw⟩;have hw':=hw.symm;clear hw;subst hw';go_wp2_with fail;go_ret;exact⟨ret_bool (qU H).symm,qU G0⟩
  ·have hi':¬ (k:Int)<(LL.length:Int):=by omega
   have H:=qH (all_end (fun c=>!emptyB A c) LL k hlt (qU hall));clear hall HV HU;go_wp2;go_ret;exact⟨ret_bool (qU H).symm,qU G0⟩
end l4
end Go.Proofs.YtddmmoehlabkiaaGreatDoor
