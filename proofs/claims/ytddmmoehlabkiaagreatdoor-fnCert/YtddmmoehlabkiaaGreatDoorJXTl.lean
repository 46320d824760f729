/- The literals that are true at an assignment: what trueLiterals and l03Lits answer at every list of at most 2^20 numbers. -/
import Derived.Test.YtddmmoehlabkiaaGreatDoorJOn
namespace Go.Proofs.YtddmmoehlabkiaaGreatDoor
set_option linter.unusedVariables false
open Go.ChangeShapes Go.WideShapes Go.ChangeAt Go.RowKit
open sl (qH qU qT)
set_option maxHeartbeats 800000
namespace as_
open sl (Sl)
open wo (Made)
def litAt (i:Nat)(x:Int):Int:=if x=1 then (i:Int)+1 else -(i:Int) - 1
def tl:Nat->List Int->List Int
 | _,[]=>[]
 | k,x::l=>litAt k x::tl (k+1) l
theorem tl_snoc (l:List Int):∀ (k:Nat) (x:Int),tl k (l++[x])=tl k l++[litAt (k+l.length) x]:=by
 induction l with
 | nil=>intro k x;rfl
 | cons y l ih =>
  intro k x;rw [List.cons_append,tl,ih,tl,List.length_cons,show k+1+l.length=k+(l.length+1) by omega];rfl
theorem tl_len (l:List Int):∀ k,(tl k l).length=l.length:=by
 induction l with
 | nil=>intro k;rfl
 | cons y l ih=>intro k;rw [tl,List.length_cons,ih,List.length_cons]
theorem tl_step (A:List Int)(k:Nat)(h:k<A.length):tl 0 (A.take (k+1))=tl 0 (A.take k)++[litAt k (A.getD k 0)]:=by
 rw [List.take_succ_eq_append_getElem h,tl_snoc,List.length_take,show A.getD k 0=A[k] by simp [h],show 0+min k A.length=k by omega]
theorem trueLiterals (v:Value)(A:List Int)(w:World)(hL:A.length<=1048576)(hv:Sl w v A) :
  Calls Tryz.prog 253 #[v] w fun e w'=>∃ u,e=.returned u/\Made w w' u (tl 0 A):=by
 obtain⟨a,cap,rfl,ha⟩:=hv;obtain⟨i0,hi,hz0,hz1,hz2⟩:=info_parts sl.info3;have HA:=qH ha;clear ha;go_enter Tryz.func253,Tryz.ntmps253;go_wp2_with (first | (at_make;refine wpList_make_own _ rfl _ _ 37 rfl w.heap.size 3 i0 (.int .i64 0) 1 Tryz.underlying37 hi hz0 hz1 _ _ _ A.length rfl rfl (by rfl) ?b1 ?b2 ?b3 ?_) | go_in)
 case b1=>rw [hz2];omega
 case b2=>unfold maxLen;omega
 case b3=>exact Nat.le_refl _
 intro w1 hown hgrow;have st:Hid (Made w w1 _ []):=⟨hown,hgrow⟩;clear hown hgrow;go_wp2;go_loopw [3,11] (fun u i wr=>∃ k:Nat,k<=A.length/\i=.int .i64 k/\Hid (Made w wr u (tl 0 (A.take k)))) (fun _ i _=>A.length - (intOf i).toNat)
 case atStart=>exact⟨0,Nat.zero_le _,rfl,st⟩
 case round =>
  obtain⟨k,hk,rfl,hm⟩:=hrel;clear st;by_cases hlt:k<A.length
  ·rcases qU HA with h | ⟨b,off,rfl,hb,hcb⟩
   ·rw [h] at hlt;simp at hlt
   ·have c1:wr.cell? ⟨b,off+k,none⟩=some (.int .i64 (A.getD k 0)):=(qU hm).2.cell (hcb k hlt) nofun;have hi':(k:Int)<(A.length:Int):=by omega
    have hs:=tl_step A k hlt;have hM:(tl 0 (A.take k)).length<=4194304:=by rw [tl_len,List.length_take];omega
    generalize A.getD k 0=x at *;generalize tl 0 (A.take k)=M at *;clear hcb HA;by_cases hx:x=1
    ·subst hx;have HS:=qH (show tl 0 (A.take (k+1))=M++[(k:Int)+1] from hs);clear hs;go_wp2_with (at_builtin;refine wo.append1 (qU hm).2 (qU hm).1 hM rfl _ _ rfl rfl rfl ?_);intro v' w3 R;have R3:=qH R;clear R hm;go_wp2;go_roundw
     case rel=>exact⟨k+1,by omega,by go_num,by rw [qU HS];exact R3⟩
     case measure=>simp [intOf];omega
    ·have hx':(x == 1)=false:=beq_eq_false_iff_ne.2 hx;have HS:=qH (show tl 0 (A.take (k+1))=M++[-(k:Int) - 1] by rw [hs];unfold litAt;rw [if_neg hx]);clear hs hx;go_wp2_with (at_builtin;refine wo.append1 (qU hm).2 (qU hm).1 hM rfl _ _ rfl rfl rfl ?_);intro v' w3 R;have R3:=qH R;clear R hm;go_wp2;go_roundw
     case rel=>exact⟨k+1,by omega,by go_num,by rw [qU HS];exact R3⟩
     case measure=>simp [intOf];omega
  ·have hi':¬ (k:Int)<(A.length:Int):=by omega
   have e:A.take k=A:=List.take_of_length_le (by omega);rw [e] at hm;clear HA e;go_wp2;go_ret;exact⟨_,rfl,qU hm⟩
theorem l03Lits (v:Value)(A:List Int)(w:World)(hL:A.length<=1048576)(hv:Sl w v A) :
  Calls Tryz.prog 63 #[v] w fun e w'=>∃ u,e=.returned u/\Made w w' u (tl 0 A):=by
 obtain⟨a,cap,rfl,ha⟩:=hv;have HA:=qH ha;have st:=qH (app.made_nil w);clear ha;go_enter Tryz.func63,Tryz.ntmps63;go_wp2;go_loopw [3,4] (fun u i wr=>∃ k:Nat,k<=A.length/\i=.int .i64 k/\Hid (Made w wr u (tl 0 (A.take k)))) (fun _ i _=>A.length - (intOf i).toNat)
 case atStart=>exact⟨0,Nat.zero_le _,rfl,st⟩
 case round =>
  obtain⟨k,hk,rfl,hm⟩:=hrel;clear st;by_cases hlt:k<A.length
  ·rcases qU HA with h | ⟨b,off,rfl,hb,hcb⟩
   ·rw [h] at hlt;simp at hlt
   ·have c1:wr.cell? ⟨b,off+k,none⟩=some (.int .i64 (A.getD k 0)):=(qU hm).2.cell (hcb k hlt) nofun;have hi':(k:Int)<(A.length:Int):=by omega
    have hs:=tl_step A k hlt;have hM:(tl 0 (A.take k)).length<=4194304:=by rw [tl_len,List.length_take];omega
    generalize A.getD k 0=x at *;generalize tl 0 (A.take k)=M at *;clear hcb HA;by_cases hx:x=1
    ·subst hx;have HS:=qH (show tl 0 (A.take (k+1))=M++[(k:Int)+1] from hs);clear hs;go_wp2_with (at_builtin;refine wo.append1 (qU hm).2 (qU hm).1 hM rfl _ _ rfl rfl rfl ?_);intro v' w3 R;have R3:=qH R;clear R hm;go_wp2;go_roundw
     case rel=>exact⟨k+1,by omega,by go_num,by rw [qU HS];exact R3⟩
     case measure=>simp [intOf];omega
    ·have hx':(x == 1)=false:=beq_eq_false_iff_ne.2 hx;have HS:=qH (show tl 0 (A.take (k+1))=M++[-(k:Int) - 1] by rw [hs];unfold litAt;rw [if_neg hx]);clear hs hx;go_wp2_with (at_builtin;refine wo.append1 (qU hm).2 (qU hm).1 hM rfl _ _ rfl rfl rfl ?_);intro v' w3 R;have R3:=qH R;clear R hm;go_wp2;go_roundw
     case rel=>exact⟨k+1,by omega,by go_num,by rw [qU HS];exact R3⟩
     case measure=>simp [intOf];omega
  ·have hi':¬ (k:Int)<(A.length:Int):=by omega
   have e:A.take k=A:=List.take_of_length_le (by omega);rw [e] at hm;clear HA e;go_wp2;go_ret;exact⟨_,rfl,qU hm⟩
end as_
end Go.Proofs.YtddmmoehlabkiaaGreatDoor
