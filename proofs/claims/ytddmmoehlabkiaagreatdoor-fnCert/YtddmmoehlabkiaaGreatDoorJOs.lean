/- Plain mathematics of FnRefute and FnCheck: forcing with more clauses fails where it failed with fewer; the clauses of a walk follow at once, one behind the other; what checks cannot be true. No condition. -/
import Derived.Test.YtddmmoehlabkiaaGreatDoorJXXt
import Derived.Test.YtddmmoehlabkiaaGreatDoorJXMq
import Derived.Test.YtddmmoehlabkiaaGreatDoorJXLq
namespace Go.Proofs.YtddmmoehlabkiaaGreatDoor
set_option linter.unusedVariables false
open Go.ChangeShapes Go.WideShapes Go.ChangeAt Go.RowKit
open lits (okB okB_iff)
open bset (placeN setOf setOf_lt setOf_snoc setOf_has)
open srt (fstI swp litI)
open ok (cnfB litIn)
open fm (freeL)
open wm (frc pc opn_bit swp_place opp_ok set_bd)
open sp (negL)
open xw (full full_stop full_end full_more free_ok free_new free_pc)
open tr (litT)
open lq (solveL)
namespace xs
open Go.RowKit
open bset (placeN_le withN withN_bit)
open srt (oppN oppN_bit oppN_lt hi_bit woN)
open ok (clB)
open wm (unitN unit_new failB pc_le clauseN clauseN_closed clauseN_empty clauseN_one clauseN_two clsd clsd_no opn one_iff firstN badN fst_spec ok_ne frc_stop frc_end frc_more)
open xw (frc_snd set_neg)
open xt (bad_cons bad_app)
def Cons (T:Nat):Prop:=∀ b,T.testBit b=true->T.testBit (swp b)=false
def Sub (T U:Nat):Prop:=∀ b,T.testBit b=true->U.testBit b=true
theorem swp_swp (b:Nat):swp (swp b)=b:=by unfold srt.swp;split <;> split <;> omega
theorem unit_quiet {Ss:List Nat}{T:Nat}(h:unitN Ss T=(0,true))(hS:∀ S∈Ss,S<2 ^ 48):∀ S∈Ss,clauseN S T=0:=by
 intro S hm;unfold wm.unitN at h
 split at h
 ·cases h
 ·rename_i hn
  have h0:firstN (Ss.map (clauseN · T))=0:=congrArg Prod.fst h;by_cases hc:clauseN S T=0
  ·exact hc
  ·exfalso
   unfold wm.firstN at h0;cases hf:(Ss.map (clauseN · T)).find? (fun x=>x != 0) with
   | none =>
    have:=List.find?_eq_none.1 hf (clauseN S T) (List.mem_map.2 ⟨S,hm,rfl⟩);simp [hc] at this
   | some y =>
    rw [hf] at h0;have:=List.find?_some hf;have e:y=0:=h0;rw [e] at this;simp at this
theorem quiet_one {S T:Nat}{y:Nat}(hS:S<2 ^ 48)(hc:clauseN S T=0)(ho:∀ b,(opn S T).testBit b=true->b=y):∃ b,S.testBit b=true/\T.testBit b=true:=by
 cases h:clsd S T
 ·exfalso
  by_cases h0:opn S T=0
  ·rw [clauseN_empty h h0] at hc;cases hc
  ·by_cases hr:woN (opn S T) (fstI (opn S T))=0
   ·have hlt:opn S T<2 ^ 48:=srt.andN_lt _ _ hS;rw [clauseN_one h h0 hr] at hc;exact (ok_ne (fst_spec (Nat.pos_of_ne_zero h0) hlt).1).1 hc
   ·have hlt:opn S T<2 ^ 48:=srt.andN_lt _ _ hS;exact hr ((one_iff hlt h0).2 fun a b ha hb=>(ho a ha).trans (ho b hb).symm)
 ·apply Classical.byContradiction;intro hn;have:clsd S T=false:=clsd_no.2 fun b hb=>hn ⟨b,hb.1,hb.2⟩;rw [this] at h;cases h
theorem quiet_in {S T y:Nat}(hS:S<2 ^ 48)(hT:Cons T)(hc:clauseN S T=0)(ho:∀ b,S.testBit b=true->b≠y->T.testBit (swp b)=true):T.testBit y=true/\S.testBit y=true:=by
 obtain⟨b,h1,h2⟩:=quiet_one (y:=y) hS hc (fun b hb=>by
  rw [opn_bit _ _ _ hS,Bool.and_eq_true,Bool.not_eq_true'] at hb;apply Classical.byContradiction;intro hn;rw [ho b hb.1 hn] at hb;cases hb.2)
 by_cases e:b=y
 ·subst e;exact⟨h2,h1⟩
 ·have:=hT b h2;rw [ho b h1 e] at this;cases this
theorem cons_with {T:Nat}{x:Int}(h:Cons T)(hx:okB x=true)(hn:T.testBit (placeN (-x))=false):Cons (withN T x):=by
 intro b hb;rw [withN_bit,Bool.or_eq_true,decide_eq_true_iff] at hb;rw [withN_bit,Bool.or_eq_false_iff,decide_eq_false_iff_not];rcases hb with q | q
 ·refine⟨h b q,fun e=>?_⟩;have e2:b=placeN (-x):=by rw [←swp_place hx,e,swp_swp]
  rw [e2,hn] at q;cases q
 ·subst q;refine⟨by rw [swp_place hx];exact hn,fun e=>?_⟩;unfold srt.swp at e
  split at e <;> omega
theorem frc_cons {Ss:List Nat}(hS:∀ S∈Ss,S<2 ^ 48):∀ (n:Nat) (p:List Int),Cons (setOf p)->Cons (setOf (frc Ss n (setOf p) p).1):=by
 intro n
 induction n with
 | zero=>exact fun p h=>h
 | succ n ih =>
  intro p h;cases hk:(unitN Ss (setOf p)).2
  ·rw [frc_stop hk];exact h
  ·by_cases h0:(unitN Ss (setOf p)).1=0
   ·rw [frc_end hk h0];exact h
   ·have un:=unit_new hS hk h0;have e:withN (setOf p) (unitN Ss (setOf p)).1=setOf (p++[(unitN Ss (setOf p)).1]):=by rw [setOf_snoc,if_pos un.1]
    rw [frc_more hk h0,e];refine ih _ ?_;rw [←e];exact cons_with h un.1 un.2.2
theorem unit_why {Ss:List Nat}{T:Nat}(hS:∀ S∈Ss,S<2 ^ 48):((unitN Ss T).2=false->∃ S∈Ss,∀ b,S.testBit b=true->T.testBit (swp b)=true) /\
  ((unitN Ss T).2=true->(unitN Ss T).1≠0->∃ S∈Ss,∀ b,S.testBit b=true->b≠placeN (unitN Ss T).1->T.testBit (swp b)=true):=by
 have opn_all:∀ S y,S<2 ^ 48->(∀ b,(opn S T).testBit b=true->b=y)->∀ b,S.testBit b=true->b≠y->T.testBit (swp b)=true:=by
  intro S y hs ho b hb hne;cases hq:T.testBit (swp b)
  ·exfalso
   exact hne (ho b (by rw [opn_bit _ _ _ hs,hb,hq];rfl))
  ·rfl
 constructor
 ·intro h;unfold wm.unitN at h
  split at h
  ·rename_i hn
   rw [List.any_eq_true] at hn;obtain⟨y,hy,e⟩:=hn;rw [List.mem_map] at hy;obtain⟨S,hSm,rfl⟩:=hy;have e':clauseN S T = -100:=by simpa using e
   have hs:=hS S hSm;refine⟨S,hSm,?_⟩;cases hc:clsd S T
   ·by_cases ho:opn S T=0
    ·intro b hb;cases hq:T.testBit (swp b)
     ·exfalso
      have:(opn S T).testBit b=true:=by rw [opn_bit _ _ _ hs,hb,hq];rfl
      rw [ho,Nat.zero_testBit] at this;cases this
     ·rfl
    ·exfalso
     by_cases hr:woN (opn S T) (fstI (opn S T))=0
     ·rw [clauseN_one hc ho hr] at e';exact (ok_ne (fst_spec (Nat.pos_of_ne_zero ho) (srt.andN_lt _ _ hs)).1).2 e'
     ·rw [clauseN_two hc ho hr] at e';cases e'
   ·rw [clauseN_closed hc] at e';cases e'
  ·cases h
 ·intro h h0;unfold wm.unitN at h h0 ⊢
  split at h
  ·cases h
  ·rename_i hn
   rw [if_neg hn] at h0 ⊢;unfold wm.firstN at h0 ⊢;cases hf:(Ss.map (clauseN · T)).find? (fun x=>x != 0) with
   | none =>
    rw [hf] at h0;exact absurd rfl h0
   | some y =>
    have hm:=List.mem_of_find?_eq_some hf;have hy:y≠0:=by simpa using List.find?_some hf
    rw [List.mem_map] at hm;obtain⟨S,hSm,rfl⟩:=hm;have hs:=hS S hSm;have h100:clauseN S T≠-100:=fun e=>hn (by
     rw [List.any_eq_true];exact⟨clauseN S T,List.mem_map.2 ⟨S,hSm,rfl⟩,by rw [e];rfl⟩)
    refine⟨S,hSm,?_⟩;show ∀ b,S.testBit b=true->b≠placeN (clauseN S T)->T.testBit (swp b)=true;cases hc:clsd S T
    ·by_cases ho:opn S T=0
     ·exact absurd (clauseN_empty hc ho) h100
     ·by_cases hr:woN (opn S T) (fstI (opn S T))=0
      ·have hlt:opn S T<2 ^ 48:=srt.andN_lt _ _ hs;rw [clauseN_one hc ho hr];exact opn_all S _ hs (fun b hb=>(one_iff hlt ho).1 hr b _ hb (fst_spec (Nat.pos_of_ne_zero ho) hlt).2)
      ·exact absurd (clauseN_two hc ho hr) hy
    ·exact absurd (clauseN_closed hc) hy
theorem within {Ss:List Nat}{U:Nat}(hS:∀ S∈Ss,S<2 ^ 48)(hU:Cons U)(hq:∀ S∈Ss,clauseN S U=0):∀ (n T:Nat) (p:List Int),Sub T U->(frc Ss n T p).2=true:=by
 intro n
 induction n with
 | zero=>intro T p _;rfl
 | succ n ih =>
  intro T p hs;cases hk:(unitN Ss T).2
  ·exfalso
   obtain⟨S,hm,hb⟩:=(unit_why hS).1 hk;obtain⟨h1,h2⟩:=quiet_in (y:=1000) (hS S hm) hU (hq S hm) (fun b hb' _=>hs _ (hb b hb'));rw [hi_bit (hS S hm) (by decide)] at h2;cases h2
  ·by_cases h0:(unitN Ss T).1=0
   ·rw [frc_end hk h0]
   ·obtain⟨S,hm,hb⟩:=(unit_why hS).2 hk h0;have h1:=(quiet_in (hS S hm) hU (hq S hm) (fun b hb' hne=>hs _ (hb b hb' hne))).1;rw [frc_more hk h0];refine ih _ _ (fun b hb'=>?_);rw [withN_bit,Bool.or_eq_true,decide_eq_true_iff] at hb';rcases hb' with q | q
    ·exact hs b q
    ·rw [←q];exact h1
theorem frc_has (Ss:List Nat)(n:Nat)(p:List Int):Sub (setOf p) (setOf (frc Ss n (setOf p) p).1):=by
 obtain⟨r,e⟩:=xw.frc_sub Ss n (setOf p) p;intro b hb;rw [e,fm.setOf_append,Nat.testBit_or,hb,Bool.true_or]
theorem not_fail {Ss:List Nat}{p:List Int}(hS:∀ S∈Ss,S<2 ^ 48)(hp:Cons (setOf p))(h:(frc Ss 49 (setOf p) p).2=true):∃ U,Cons U/\Sub (setOf p) U/\∀ S∈Ss,clauseN S U=0:=by
 refine⟨setOf (frc Ss 49 (setOf p) p).1,frc_cons hS 49 p hp,frc_has Ss 49 p,unit_quiet ?_ hS⟩;rw [mq.frc_unit hS 49 p (Nat.le_add_right _ _),h]
theorem more_fails {Ss Xs:List Nat}{p:List Int}(hS:∀ S∈Ss,S<2 ^ 48)(hX:∀ S∈Xs,S<2 ^ 48)(hp:Cons (setOf p))(h:(frc Ss 49 (setOf p) p).2=false):(frc (Ss++Xs) 49 (setOf p) p).2=false:=by
 cases hf:(frc (Ss++Xs) 49 (setOf p) p).2
 ·rfl
 ·exfalso
  obtain⟨U,hU,hs,hq⟩:=not_fail (fun S hm=>by
   rcases List.mem_append.1 hm with q | q
   ·exact hS S q
   ·exact hX S q) hp hf
  have:=within hS hU (fun S hm=>hq S (List.mem_append_left _ hm)) 49 (setOf p) p hs;rw [this] at h;cases h
theorem both_fail {Ss:List Nat}{d:List Int}{x:Int}(hS:∀ S∈Ss,S<2 ^ 48)(hd:Cons (setOf d))(hx:okB x=true)(h1:setOf (negL (d++[-x]))∈Ss)(h2:setOf (negL (d++[x]))∈Ss):(frc Ss 49 (setOf d) d).2=false:=by
 cases hf:(frc Ss 49 (setOf d) d).2
 ·rfl
 ·exfalso
  obtain⟨U,hU,hs,hq⟩:=not_fail hS hd hf;have key:∀ y,okB y=true->setOf (negL (d++[-y]))∈Ss->U.testBit (placeN y)=true:=by
   intro y hy hm;refine (quiet_in (S:=setOf (negL (d++[-y]))) (setOf_lt _) hU (hq _ hm) (fun b hb hne=>?_)).1;rw [set_neg,oppN_bit,Bool.and_eq_true,setOf_snoc,if_pos (opp_ok hy),withN_bit,Bool.or_eq_true,decide_eq_true_iff] at hb;rcases hb.2 with q | q
   ·exact hs _ q
   ·exfalso
    apply hne;rw [decide_eq_true_iff] at q;rw [←swp_swp b,←q,swp_place (opp_ok hy),Int.neg_neg]
  have a:=key x hx h1;have b:=key (-x) (opp_ok hx) (by rw [Int.neg_neg];exact h2);have:=hU _ a;rw [swp_place hx,b] at this;cases this
theorem opp_opp {S:Nat}(h:S<2 ^ 48):oppN (oppN S)=S:=by
 refine xw.bits_eq (oppN_lt _) h fun x hx=>?_;have hp:=placeN_le hx;have hp':=placeN_le (opp_ok hx);rw [oppN_bit,oppN_bit,decide_eq_true (show placeN x<48 by omega),swp_place hx,decide_eq_true (show placeN (-x)<48 by omega),swp_place (opp_ok hx),Int.neg_neg];rfl
theorem fail_neg_neg (Ss:List Nat)(d:List Int):failB Ss (oppN (setOf (negL d)))=!(frc Ss 49 (setOf d) d).2:=by
 rw [set_neg,opp_opp (setOf_lt d)];unfold wm.failB;rw [frc_snd Ss 49 (setOf d) [] d]
theorem full_last {n:Int}{LL:List (List Int)}{k:Nat}{d:List Int}{C:List (List Int)}(h:full n LL k d=some C):∃ A,C=A++[negL d]:=by
 cases k with
 | zero=>cases h
 | succ k =>
  cases hf:(frc (LL.map setOf) 49 (setOf d) d).2
  ·rw [full_stop hf] at h;cases h;exact⟨[],rfl⟩
  ·cases h0:freeL n LL (frc (LL.map setOf) 49 (setOf d) d).1 with
   | nil=>rw [full_end hf h0] at h;cases h
   | cons x r =>
    rw [full_more hf h0] at h;cases ha:full n LL k (d++[-x]) with
    | none=>rw [ha] at h;cases h
    | some A =>
     cases hb:full n LL k (d++[x]) with
     | none=>rw [ha,hb] at h;cases h
     | some B =>
      rw [ha,hb] at h;cases h;exact⟨A++B,rfl⟩
structure Dec_ (n:Int) (d:List Int):Prop where
 lit:∀ x∈d,litIn n x=true
 cons:Cons (setOf d)
 len:d.length<=pc (setOf d)
theorem Dec_.nil (n:Int):Dec_ n []:=⟨(fun x h=>by cases h),(fun b h=>by rw [show setOf []=0 from rfl,Nat.zero_testBit] at h;cases h),Nat.zero_le _⟩
theorem free_lit {n:Int}{LL:List (List Int)}{L r:List Int}{x:Int}(h:freeL n LL L=x::r):litIn n x=true/\litIn n (-x)=true:=by
 have ok:=free_ok h;have hx:x∈freeL n LL L:=by rw [h];exact List.mem_cons_self ..
 have hc:cnfB n LL=true:=by
  cases hb:cnfB n LL
  ·unfold fm.freeL at hx;rw [hb] at hx;cases hx
  ·rfl
 have hf:=fm.cnf_facts hc;obtain⟨m,rfl⟩:=Int.eq_ofNat_of_zero_le hf.1;unfold fm.freeL at hx;rw [hc,if_pos rfl] at hx;unfold srt.srt at hx;rw [List.mem_map] at hx;obtain⟨i,hi,rfl⟩:=hx;rw [List.mem_filter,List.mem_range] at hi;have k:=wm.litI_spec hi.1;have hb:=hi.2;rw [fm.freeN_bit _ _ _ (by omega),Bool.and_eq_true,Bool.and_eq_true,decide_eq_true_iff,decide_eq_true_iff] at hb;have hm:i<2*m:=hb.1.1;refine⟨mq.place_lit ok.1 (by rw [k.2];exact hm),mq.place_lit ok.2 ?_⟩;rw [←swp_place ok.1,k.2];unfold srt.swp
 split <;> omega
theorem Dec_.more {n:Int}{LL:List (List Int)}{Ss:List Nat}{d r:List Int}{x:Int}(h:Dec_ n d)(h0:freeL n LL (frc Ss 49 (setOf d) d).1=x::r):Dec_ n (d++[-x])/\Dec_ n (d++[x]):=by
 have ok:=free_ok h0;have nw:=free_new h0;have hp:=free_pc h0;have fl:=free_lit h0;have mem:∀ y,litIn n y=true->∀ z∈d++[y],litIn n z=true:=by
  intro y hy z hz;rcases List.mem_append.1 hz with q | q
  ·exact h.lit z q
  ·rw [List.mem_singleton] at q;rw [q];exact hy
 have hl:=h.len;refine⟨⟨mem _ fl.2,?_,by rw [List.length_append,List.length_singleton];omega⟩,⟨mem _ fl.1,?_,by rw [List.length_append,List.length_singleton];omega⟩⟩
 ·rw [setOf_snoc,if_pos ok.2];exact cons_with h.cons ok.2 (by rw [Int.neg_neg];exact nw.1)
 ·rw [setOf_snoc,if_pos ok.1];exact cons_with h.cons ok.1 nw.2
theorem neg_cl {n:Int}{d:List Int}(h:Dec_ n d):clB n (negL d)=true:=by
 have hp:=pc_le (setOf d);have hl:=h.len;unfold ok.clB;rw [Bool.and_eq_true,decide_eq_true_iff,List.all_eq_true];refine⟨fun x hx=>?_,by unfold sp.negL;rw [List.length_map];omega⟩;unfold sp.negL at hx;rw [List.mem_map] at hx;obtain⟨y,hy,rfl⟩:=hx;have hly:=h.lit y hy;unfold ok.litIn at hly ⊢;rw [Bool.and_eq_true,decide_eq_true_iff] at hly;have hv:lits.varI (-y)=lits.varI y:=by
  unfold lits.varI;rw [opp_ok hly.1,hly.1];have:=okB_iff.1 hly.1;simp only [if_true]
  split <;> split <;> omega
 rw [opp_ok hly.1,hv,decide_eq_true hly.2];rfl
theorem full_good (n:Int)(LL:List (List Int)):∀ (k:Nat) (d:List Int) (C:List (List Int)) (Xs:List Nat),Dec_ n d->(∀ S∈Xs,S<2 ^ 48)->full n LL k d=some C->badN n (LL.map setOf++Xs) C=C.length:=by
 intro k
 induction k with
 | zero=>intro d C Xs _ _ h;cases h
 | succ k ih =>
  intro d C Xs hd hX h;have hcl:=neg_cl hd;have last:∀ Ys:List Nat,failB (LL.map setOf++Ys) (oppN (setOf (negL d)))=true->badN n (LL.map setOf++Ys) [negL d]=1:=by
   intro Ys hf;rw [bad_cons,hcl,hf];rfl
  cases hf:(frc (LL.map setOf) 49 (setOf d) d).2
  ·rw [full_stop hf] at h;cases h;exact last Xs (by rw [fail_neg_neg,more_fails (set_bd LL) hX hd.cons hf];rfl)
  ·cases h0:freeL n LL (frc (LL.map setOf) 49 (setOf d) d).1 with
   | nil=>rw [full_end hf h0] at h;cases h
   | cons x r =>
    have dm:=hd.more h0;have ok:=free_ok h0;rw [full_more hf h0] at h;cases ha:full n LL k (d++[-x]) with
    | none=>rw [ha] at h;cases h
    | some A =>
     cases hb:full n LL k (d++[x]) with
     | none=>rw [ha,hb] at h;cases h
     | some B =>
      rw [ha,hb] at h;cases h;have iA:=ih (d++[-x]) A Xs dm.1 hX ha;have hXA:∀ S∈Xs++A.map setOf,S<2 ^ 48:=fun S hm=>by
       rcases List.mem_append.1 hm with q | q
       ·exact hX S q
       ·exact set_bd A S q
      have iB:=ih (d++[x]) B (Xs++A.map setOf) dm.2 hXA hb;rw [←List.append_assoc] at iB;obtain⟨A',eA⟩:=full_last ha;obtain⟨B',eB⟩:=full_last hb;have hXB:∀ S∈LL.map setOf++(Xs++(A++B).map setOf),S<2 ^ 48:=fun S hm=>by
       rcases List.mem_append.1 hm with q | q
       ·exact set_bd LL S q
       ·rcases List.mem_append.1 q with q | q
        ·exact hX S q
        ·exact set_bd _ S q
      have hAB:badN n (LL.map setOf++Xs) (A++B)=(A++B).length:=by
       rw [bad_app,if_pos iA,iB,List.length_append]
      have e1:=last (Xs++(A++B).map setOf) (by
       rw [fail_neg_neg,both_fail hXB hd.cons ok.1 ?_ ?_]
       ·rfl
       ·refine List.mem_append_right _ (List.mem_append_right _ (List.mem_map.2 ⟨negL (d++[-x]),?_,rfl⟩));rw [eA];simp
       ·refine List.mem_append_right _ (List.mem_append_right _ (List.mem_map.2 ⟨negL (d++[x]),?_,rfl⟩));rw [eB];simp)
      rw [←List.append_assoc] at e1;show badN n (LL.map setOf++Xs) (A++B++[negL d])=(A++B++[negL d]).length;rw [bad_app,if_pos hAB,e1];simp;omega
theorem refute_check {n:Int}{LL C:List (List Int)}{k:Nat}(hc:cnfB n LL=true)(h:full n LL k []=some C)(h7:C.length<=700):xe.checkB n LL C=true:=by
 have g:=full_good n LL k [] C [] (Dec_.nil n) (fun S hm=>by cases hm) h;rw [List.append_nil] at g;obtain⟨A,e⟩:=full_last h;refine xt.check_of hc h7 g (by rw [e];simp) ?_;rw [e];simp [sp.negL]
theorem sound_one {m W:Nat}{Ss:List Nat}{L:List Int}(hS:∀ S∈Ss,S<2 ^ 48)(hb:∀ S∈Ss,∀ b,S.testBit b=true->b<2*m)(hf:ml.Fair m W)(hm:∀ S∈Ss,S &&& W≠0)(hL:∀ x∈L,litIn (m:Int) x=true)(h:failB Ss (oppN (setOf L))=true):setOf L &&& W≠0:=by
 intro hz;have no:∀ b,(setOf L).testBit b=true->W.testBit b=false:=fun b q=>by
  have:=congrArg (fun z=>z.testBit b) hz
  simpa [Nat.testBit_and,q] using this
 have hbL:∀ b,(setOf L).testBit b=true->b<2*m:=fun b q=>by
  rcases Nat.lt_or_ge b (2*m) with z | z
  ·exact z
  ·rw [fm.set_hi hL b z] at q;cases q
 have hT:∀ b,(oppN (setOf L)).testBit b=true->W.testBit b=true:=fun b q=>by
  rw [oppN_bit,Bool.and_eq_true] at q;have h1:=hf _ (hbL _ q.2);rw [swp_swp,no _ q.2] at h1;exact h1
 have:=ml.force_true hS hb hf hm 49 (oppN (setOf L)) [] hT;unfold wm.failB at h;rw [this] at h;cases h
theorem sound_all {m W:Nat}(hf:ml.Fair m W):∀ (C:List (List Int)) (Ss:List Nat),(∀ S∈Ss,S<2 ^ 48)->(∀ S∈Ss,∀ b,S.testBit b=true->b<2*m)->(∀ S∈Ss,S &&& W≠0)->badN (m:Int) Ss C=C.length->∀ L∈C,setOf L &&& W≠0:=by
 intro C
 induction C with
 | nil=>intro Ss _ _ _ _ L hL;cases hL
 | cons M C ih =>
  intro Ss hS hb hm h L hL;rw [bad_cons] at h;cases hq:clB (m:Int) M && failB Ss (oppN (setOf M))
  ·rw [hq] at h;simp at h
  ·rw [hq,if_pos rfl,List.length_cons] at h;rw [Bool.and_eq_true] at hq;have hcl:=hq.1;unfold ok.clB at hcl;rw [Bool.and_eq_true,List.all_eq_true] at hcl;have hM:=sound_one hS hb hf hm hcl.1 hq.2;rcases List.mem_cons.1 hL with q | q
   ·rw [q];exact hM
   ·refine ih (Ss++[setOf M]) (fun S hs=>?_) (fun S hs=>?_) (fun S hs=>?_) (by omega) L q
    ·rcases List.mem_append.1 hs with z | z
     ·exact hS S z
     ·rw [List.mem_singleton] at z;rw [z];exact setOf_lt M
    ·rcases List.mem_append.1 hs with z | z
     ·exact hb S z
     ·rw [List.mem_singleton] at z;rw [z];intro b q';rcases Nat.lt_or_ge b (2*m) with y | y
      ·exact y
      ·rw [fm.set_hi hcl.1 b y] at q';cases q'
    ·rcases List.mem_append.1 hs with z | z
     ·exact hm S z
     ·rw [List.mem_singleton] at z;rw [z];exact hM
theorem check_sound {m W:Nat}{LL C:List (List Int)}(h:xe.checkB (m:Int) LL C=true)(hf:ml.Fair m W):∃ S∈LL.map setOf,S &&& W=0:=by
 apply Classical.byContradiction;intro hn;obtain⟨hc,_,hb,h0,hz⟩:=xt.check_facts h;have facts:=fm.cnf_facts hc;have hm:∀ S∈LL.map setOf,S &&& W≠0:=fun S hs e=>hn ⟨S,hs,e⟩;have hbb:∀ S∈LL.map setOf,∀ b,S.testBit b=true->b<2*m:=fun S hs b q=>by
  rw [List.mem_map] at hs;obtain⟨M,hM,rfl⟩:=hs;rcases Nat.lt_or_ge b (2*m) with y | y
  ·exact y
  ·rw [fm.set_hi (facts.2.2.2 M hM).2 b y] at q;cases q
 have hlast:C.getD (C.length - 1) []∈C:=by
  rw [List.getD,List.getElem?_eq_getElem (by omega)];exact List.getElem_mem _
 have:=sound_all hf C (LL.map setOf) (set_bd LL) hbb hm hb _ hlast;have e:C.getD (C.length - 1) []=[]:=List.eq_nil_of_length_eq_zero hz;rw [e] at this;exact this (Nat.zero_and W)
end xs
namespace xs
open Go.RowKit
open lq (holds lst_some)
open wm (sumR)
def trueL (m:Nat)(A:List Int):List Int:=((List.range m).flatMap fun (j:Nat)=>[(j:Int)+1,-((j:Int)+1)]).filter (litT A)
theorem lit_mem {m:Nat}{x:Int}(h:litIn (m:Int) x=true):x∈(List.range m).flatMap fun (j:Nat)=>[(j:Int)+1,-((j:Int)+1)]:=by
 unfold ok.litIn at h;rw [Bool.and_eq_true,decide_eq_true_iff] at h;have hk:=okB_iff.1 h.1;have hv:=h.2;unfold lits.varI at hv;rw [h.1,if_pos rfl] at hv;rw [List.mem_flatMap];by_cases hx:0<x
 ·refine⟨(x - 1).toNat,?_,?_⟩
  ·rw [List.mem_range]
   split at hv <;> omega
  ·have e:(((x - 1).toNat:Nat):Int)+1=x:=by omega
   rw [e];exact List.mem_cons_self ..
 ·refine⟨(-x - 1).toNat,?_,?_⟩
  ·rw [List.mem_range]
   split at hv <;> omega
  ·have e : -((((-x - 1).toNat:Nat):Int)+1)=x:=by omega
   rw [e];simp
theorem true_bit {m:Nat}{A:List Int}{x:Int}(h:litIn (m:Int) x=true):(setOf (trueL m A)).testBit (placeN x)=litT A x:=by
 have hx:okB x=true:=by
  unfold ok.litIn at h;rw [Bool.and_eq_true] at h;exact h.1
 rw [setOf_has _ x hx];unfold cls.hasB trueL;rw [Bool.eq_iff_iff,decide_eq_true_iff,List.mem_filter];exact⟨fun q=>q.2,fun q=>⟨lit_mem h,q⟩⟩
theorem neg_lit {m:Nat}{x:Int}(h:litIn (m:Int) x=true):litIn (m:Int) (-x)=true:=by
 unfold ok.litIn at h ⊢;rw [Bool.and_eq_true,decide_eq_true_iff] at h;have hv:lits.varI (-x)=lits.varI x:=by
  unfold lits.varI;rw [opp_ok h.1,h.1];have:=okB_iff.1 h.1;simp only [if_true]
  split <;> split <;> omega
 rw [opp_ok h.1,hv,decide_eq_true h.2];rfl
theorem lit_opp {A:List Int}{x:Int}(h:okB x=true):litT A (-x)=!litT A x:=by
 have hk:=okB_iff.1 h;have hv:lits.varI (-x)=lits.varI x:=by
  unfold lits.varI;rw [opp_ok h,h];simp only [if_true]
  split <;> split <;> omega
 have h0:lits.varI x≠0:=by
  unfold lits.varI;rw [h];simp only [if_true]
  split <;> omega
 unfold tr.litT;rw [hv,if_neg h0,if_neg h0];have e:decide (0 < -x)=!decide (0<x):=by
  by_cases q:0<x
  ·rw [decide_eq_true q,decide_eq_false (by omega)];rfl
  ·rw [decide_eq_false q,decide_eq_true (by omega)];rfl
 rw [e];cases (decide (lits.varI x<=(A.length:Int)) && decide (A.getD (lits.varI x - 1).toNat 0=1)) <;> cases decide (0<x) <;> rfl
theorem true_fair (m:Nat)(A:List Int)(hm:m<=24):ml.Fair m (setOf (trueL m A)):=by
 intro b hb;have k:=wm.litI_spec (t:=b) (by omega);have hl:litIn (m:Int) (litI b)=true:=mq.place_lit k.1 (by rw [k.2];exact hb);have h1:=true_bit (A:=A) hl;have h2:=true_bit (A:=A) (neg_lit hl);rw [k.2] at h1;rw [←swp_place k.1,k.2,lit_opp k.1] at h2;rw [h1,h2]
theorem check_unsat {n:Int}{LL C:List (List Int)}(h:xe.checkB n LL C=true):solveL n LL []=none:=by
 have hc:=(xt.check_facts h).1;have hf:=fm.cnf_facts hc;obtain⟨m,rfl⟩:=Int.eq_ofNat_of_zero_le hf.1;cases hs:solveL (m:Int) LL [] with
 | none=>rfl
 | some A =>
  exfalso
  unfold lq.solveL at hs;rw [hc] at hs;have hl:=(lst_some (m:=m) (p:=holds LL []) (l:=A) (by simpa using hs)).2;unfold lq.holds at hl;rw [Bool.and_eq_true] at hl;obtain⟨S,hS,hz⟩:=check_sound h (true_fair m A (by omega));rw [List.mem_map] at hS;obtain⟨L,hL,rfl⟩:=hS;have hcl:=List.all_eq_true.1 hl.1 L hL;unfold tr.clT at hcl;rw [List.any_eq_true] at hcl;obtain⟨x,hx,ht⟩:=hcl;have hin:=(hf.2.2.2 L hL).2 x hx;have hok:okB x=true:=by
   unfold ok.litIn at hin;rw [Bool.and_eq_true] at hin;exact hin.1
  have b1:=true_bit (A:=A) hin;rw [ht] at b1;have b2:(setOf L).testBit (placeN x)=true:=by rw [setOf_has L x hok];exact decide_eq_true hx
  have:=congrArg (fun z=>z.testBit (placeN x)) hz;simp [Nat.testBit_and,b1,b2] at this
theorem sumR_two (f:Nat->Nat)(h:∀ i,f (2*i)+f (2*i+1)<=1):∀ m,sumR (2*m) f<=m:=by
 intro m
 induction m with
 | zero=>exact Nat.le_refl _
 | succ m ih =>
  have e:sumR (2*(m+1)) f=sumR (2*m) f+f (2*m)+f (2*m+1):=rfl;have:=h m;omega
theorem sumR_end (f:Nat->Nat)(a:Nat)(h:∀ i,a<=i->f i=0):∀ b,sumR (a+b) f=sumR a f:=by
 intro b
 induction b with
 | zero=>rfl
 | succ b ih =>
  show sumR (a+b) f+f (a+b)=_;rw [ih,h (a+b) (Nat.le_add_right _ _)];rfl
theorem pc_cons {T m:Nat}(h:Cons T)(hm:m<=24)(hb:∀ b,T.testBit b=true->b<2*m):pc T<=m:=by
 unfold wm.pc;have e:=sumR_end (fun b=>if T.testBit b then 1 else 0) (2*m) (fun i hi=>by
  cases hq:T.testBit i
  ·rfl
  ·have:=hb i hq;omega) (48 - 2*m)
 rw [show 2*m+(48 - 2*m)=48 by omega] at e;rw [e];refine sumR_two _ (fun i=>?_) m;cases h1:T.testBit (2*i)
 ·cases h2:T.testBit (2*i+1)
  ·exact Nat.zero_le _
  ·exact Nat.le_refl _
 ·have:=h _ h1;have es:swp (2*i)=2*i+1:=by unfold srt.swp;split <;> omega
  rw [es] at this;rw [this];exact Nat.le_refl _
theorem dec_len {m:Nat}{d:List Int}(h:Dec_ (m:Int) d)(hm:m<=24):d.length<=m :=
 Nat.le_trans h.len (pc_cons h.cons hm fun b hb=>by
  rcases Nat.lt_or_ge b (2*m) with z | z
  ·exact z
  ·rw [fm.set_hi h.lit b z] at hb
   cases hb)
theorem full_short {m:Nat}{LL:List (List Int)}(hm:m<=24):∀ (k:Nat) (d:List Int) (C:List (List Int)),Dec_ (m:Int) d->full (m:Int) LL k d=some C->∀ L∈C,L.length<=m:=by
 intro k
 induction k with
 | zero=>intro d C _ h;cases h
 | succ k ih =>
  intro d C hd h L hL;have hneg:(negL d).length<=m:=by unfold sp.negL;rw [List.length_map];exact dec_len hd hm
  cases hf:(frc (LL.map setOf) 49 (setOf d) d).2
  ·rw [full_stop hf] at h;cases h;rw [List.mem_singleton] at hL;rw [hL];exact hneg
  ·cases h0:freeL (m:Int) LL (frc (LL.map setOf) 49 (setOf d) d).1 with
   | nil=>rw [full_end hf h0] at h;cases h
   | cons x r =>
    have dm:=hd.more h0;rw [full_more hf h0] at h;cases ha:full (m:Int) LL k (d++[-x]) with
    | none=>rw [ha] at h;cases h
    | some A =>
     cases hb:full (m:Int) LL k (d++[x]) with
     | none=>rw [ha,hb] at h;cases h
     | some B =>
      rw [ha,hb] at h;cases h;rcases List.mem_append.1 hL with q | q
      ·rcases List.mem_append.1 q with q | q
       ·exact ih _ A dm.1 ha L q
       ·exact ih _ B dm.2 hb L q
      ·rw [List.mem_singleton] at q;rw [q];exact hneg
theorem sum_short {m:Nat}:∀ {C:List (List Int)},(∀ L∈C,L.length<=m)->(C.map List.length).sum<=m*C.length:=by
 intro C
 induction C with
 | nil=>intro _;exact Nat.zero_le _
 | cons L C ih =>
  intro h;have h1:=h L (List.mem_cons_self ..);have h2:=ih (fun M hM=>h M (List.mem_cons_of_mem _ hM));rw [List.map_cons,List.sum_cons,List.length_cons,Nat.mul_succ];omega
theorem refute_all {n:Int}{LL:List (List Int)}(hc:cnfB n LL=true)(h:(xw.wlk n LL 700 []).2=true):xe.checkB n LL (xw.wlk n LL 700 []).1=true/\solveL n LL []=none/\((xw.wlk n LL 700 []).1.map List.length).sum<=n.toNat*(xw.wlk n LL 700 []).1.length:=by
 have hf:=fm.cnf_facts hc;obtain⟨m,rfl⟩:=Int.eq_ofNat_of_zero_le hf.1;rw [xw.wlk_full (m:Int) LL 49 700 [] (Nat.le_add_right _ _)] at h ⊢;cases hq:full (m:Int) LL 49 [] with
 | none=>rw [hq] at h;cases h
 | some C =>
  have e:xw.cnt (some C) 700=if C.length<=700 then (C,true) else ([],false):=rfl;rw [hq,e] at h;by_cases h7:C.length<=700
  ·rw [e,if_pos h7];have ck:=refute_check hc hq h7;exact⟨ck,check_unsat ck,sum_short (full_short (by omega) 49 [] C (Dec_.nil _) hq)⟩
  ·rw [if_neg h7] at h;cases h
end xs
namespace yw
open fm (freeN)
open tr (clT cnfT trueB)
open xs (Cons Dec_ dec_len quiet_one unit_quiet frc_cons neg_lit cons_with)
theorem true_solve {n:Int}{LL:List (List Int)}{A:List Int}(h:trueB n LL A=true):(solveL n LL []).isSome=true:=by
 unfold tr.trueB tr.assignB at h;simp only [Bool.and_eq_true,decide_eq_true_iff] at h;obtain⟨⟨⟨hc,hl⟩,hb⟩,ht⟩:=h;unfold lq.solveL;rw [hc];simp only [List.all_nil,Bool.and_self,if_true];cases e:lq.lst n.toNat (lq.holds LL []) with
 | some l=>rfl
 | none =>
  have:=lq.lst_none.1 e A ⟨by omega,fun x hx=>by
   have:=List.all_eq_true.1 hb x hx;unfold tr.bitB at this;have:=of_decide_eq_true this;omega⟩
  unfold lq.holds at this;rw [ht] at this;cases this
def asg (m T:Nat):List Int:=(List.range m).map fun j=>if T.testBit (2*j) then 1 else 0
theorem asg_at {m T k:Nat}(h:k<m):(asg m T).getD k 0=if T.testBit (2*k) then 1 else 0:=by
 unfold asg;rw [List.getD_eq_getElem?_getD,List.getElem?_map,List.getElem?_range h];rfl
theorem asg_len (m T:Nat):(asg m T).length=m:=by unfold asg;rw [List.length_map,List.length_range]
theorem lit_pos {m T k:Nat}(h:k<m)(hm:m<=24):litT (asg m T) ((k:Int)+1)=T.testBit (2*k):=by
 unfold tr.litT;have hv:lits.varI ((k:Int)+1)=(k:Int)+1:=by rw [lits.varI_yes (by omega),if_neg (by omega)]
 rw [hv,if_neg (by omega),asg_len,decide_eq_true (show (k:Int)+1<=(m:Int) by omega),show ((k:Int)+1 - 1).toNat=k by omega,asg_at h,decide_eq_true (show (0:Int)<(k:Int)+1 by omega)];cases T.testBit (2*k) <;> rfl
theorem lit_neg {m T k:Nat}(h:k<m)(hm:m<=24):litT (asg m T) (-((k:Int)+1))=!T.testBit (2*k):=by
 rw [xs.lit_opp (okB_iff.2 (by omega)),lit_pos h hm]
theorem lit_even (k:Nat):litI (2*k)=(k:Int)+1:=by
 unfold srt.litI;rw [if_neg (by omega),show 2*k / 2=k by omega]
theorem lit_odd (k:Nat):litI (2*k+1) = -((k:Int)+1):=by
 unfold srt.litI;rw [if_pos (by omega),show (2*k+1) / 2=k by omega]
theorem cl_true {m T:Nat}{L:List Int}(hm:m<=24)(hT:Cons T)(hL:∀ x∈L,litIn (m:Int) x=true){b:Nat}(hb:(setOf L).testBit b=true)(ht:T.testBit b=true):clT (asg m T) L=true:=by
 have hb2:b<2*m:=by
  rcases Nat.lt_or_ge b (2*m) with z | z
  ·exact z
  ·rw [fm.set_hi hL b z] at hb;cases hb
 have k:=wm.litI_spec (t:=b) (by omega);have hmem:litI b∈L:=by
  have:=setOf_has L (litI b) k.1;rw [k.2,hb] at this;exact of_decide_eq_true this.symm
 unfold tr.clT;rw [List.any_eq_true];refine⟨litI b,hmem,?_⟩;obtain⟨j,rfl | rfl⟩:∃ j,b=2*j∨b=2*j+1:=⟨b / 2,by omega⟩
 ·rw [lit_even,lit_pos (by omega) hm,ht]
 ·have:=hT _ ht;rw [show swp (2*j+1)=2*j by unfold srt.swp;split <;> omega] at this;rw [lit_odd,lit_neg (by omega) hm,this];rfl
theorem some_free {m w:Nat}{LL:List (List Int)}{d:List Int}(hc:cnfB (m:Int) LL=true)(hw:∀ L∈LL,∀ x∈L,litIn (w:Int) x=true)(hwm:w<=m)(hs:solveL (m:Int) LL []=none)(hd:Cons (setOf d))(hf:(frc (LL.map setOf) 49 (setOf d) d).2=true) :
  ∃ k,k<w/\(freeN m (frc (LL.map setOf) 49 (setOf d) d).1).testBit (2*k)=true:=by
 have ff:=fm.cnf_facts hc;have hT:=frc_cons (set_bd LL) 49 d hd;have hq:=unit_quiet (Ss:=LL.map setOf) (T:=setOf (frc (LL.map setOf) 49 (setOf d) d).1) (by rw [mq.frc_unit (set_bd LL) 49 d (Nat.le_add_right _ _),hf]) (set_bd LL);generalize hF:(frc (LL.map setOf) 49 (setOf d) d).1=F at hT hq ⊢;apply Classical.byContradiction;intro hn;have dec:∀ b,b<2*w->(setOf F).testBit b=true∨(setOf F).testBit (swp b)=true:=by
  intro b hb;apply Classical.byContradiction;intro hk;refine hn ⟨b / 2,by omega,?_⟩;rw [fm.freeN_bit _ _ _ (by omega),decide_eq_true (show 2*(b / 2)<2*m by omega),decide_eq_true (show 2*(b / 2) % 2=0 by omega)];have h1:(setOf F).testBit b=false:=by cases e:(setOf F).testBit b;rfl;exact absurd (.inl e) hk
  have h2:(setOf F).testBit (swp b)=false:=by cases e:(setOf F).testBit (swp b);rfl;exact absurd (.inr e) hk
  obtain⟨j,rfl | rfl⟩:∃ j,b=2*j∨b=2*j+1:=⟨b / 2,by omega⟩
  ·rw [show 2*(2*j / 2)=2*j by omega,h1,h2];rfl
  ·have e1:swp (2*j+1)=2*j:=by unfold srt.swp;split <;> omega
   have e2:swp (2*j)=2*j+1:=by unfold srt.swp;split <;> omega
   rw [show 2*((2*j+1) / 2)=2*j by omega,e2,h1];rw [e1] at h2;rw [h2];rfl
 have all:cnfT (asg m (setOf F)) LL=true:=by
  unfold tr.cnfT;rw [List.all_eq_true];intro L hL;have h0:=hq (setOf L) (List.mem_map.2 ⟨L,hL,rfl⟩);have ex:∃ b,(setOf L).testBit b=true/\(setOf F).testBit b=true:=by
   apply Classical.byContradiction;intro hno;refine hno (quiet_one (y:=0) (setOf_lt L) h0 fun b hb=>?_)
   exfalso
   rw [opn_bit _ _ _ (setOf_lt L),Bool.and_eq_true] at hb;have hbw:b<2*w:=by
    rcases Nat.lt_or_ge b (2*w) with z | z
    ·exact z
    ·rw [fm.set_hi (hw L hL) b z] at hb;cases hb.1
   rcases dec b hbw with q | q
   ·exact hno ⟨b,hb.1,q⟩
   ·have:=hb.2;rw [q] at this;cases this
  obtain⟨b,hb,ht⟩:=ex;exact cl_true (by omega) hT (ff.2.2.2 L hL).2 hb ht
 have tr:trueB (m:Int) LL (asg m (setOf F))=true:=by
  unfold tr.trueB tr.assignB;rw [hc,asg_len,decide_eq_true rfl,all];have:(asg m (setOf F)).all tr.bitB=true:=by
   rw [List.all_eq_true];intro x hx;unfold asg at hx;rw [List.mem_map] at hx;obtain⟨j,_,rfl⟩:=hx;cases (setOf F).testBit (2*j) <;> rfl
  rw [this];rfl
 have:=true_solve tr;rw [hs] at this;cases this
theorem first_low {S b:Nat}(h:S<2 ^ 48)(hb:S.testBit b=true):placeN (fstI S)<=b:=by
 have h0:0<S:=by
  rcases Nat.eq_zero_or_pos S with e | e
  ·rw [e,Nat.zero_testBit] at hb;cases hb
  ·exact e
 obtain⟨t,m,et,ht,es⟩:=srt.low h0 h;have e:fstI S=litI t:=by unfold srt.fstI;rw [←et]
 rw [e,(wm.litI_spec ht).2];rcases Nat.lt_or_ge b t with q | q
 ·rw [es,srt.low_bit,if_pos (by omega),decide_eq_false (by omega)] at hb;cases hb
 ·exact q
theorem free_first {m w:Nat}{LL:List (List Int)}{F:List Int}{k:Nat}(hc:cnfB (m:Int) LL=true)(hk:k<w)(h:(freeN m F).testBit (2*k)=true):∃ x r,freeL (m:Int) LL F=x::r/\litIn (w:Int) x=true:=by
 have ff:=fm.cnf_facts hc;have hlt:=fm.freeN_lt F (show m<=24 by omega);have h0:freeN m F≠0:=fun e=>by
  rw [e,Nat.zero_testBit] at h;cases h
 obtain⟨r,e⟩:=(xw.free_fst (L:=F) hc).2 h0;refine⟨_,r,e,mq.place_lit (free_ok e).1 ?_⟩;have:=first_low hlt h;omega
theorem dec_more {m w:Nat}{LL:List (List Int)}{Ss:List Nat}{d r:List Int}{x:Int}(h:Dec_ (w:Int) d)(hx:litIn (w:Int) x=true)(h0:freeL (m:Int) LL (frc Ss 49 (setOf d) d).1=x::r):Dec_ (w:Int) (d++[-x])/\Dec_ (w:Int) (d++[x]):=by
 have ok:=free_ok h0;have nw:=free_new h0;have hp:=free_pc h0;have mem:∀ y,litIn (w:Int) y=true->∀ z∈d++[y],litIn (w:Int) z=true:=by
  intro y hy z hz;rcases List.mem_append.1 hz with q | q
  ·exact h.lit z q
  ·rw [List.mem_singleton] at q;rw [q];exact hy
 have hl:=h.len;refine⟨⟨mem _ (neg_lit hx),?_,by rw [List.length_append,List.length_singleton];omega⟩,⟨mem _ hx,?_,by rw [List.length_append,List.length_singleton];omega⟩⟩
 ·rw [setOf_snoc,if_pos ok.2];exact cons_with h.cons ok.2 (by rw [Int.neg_neg];exact nw.1)
 ·rw [setOf_snoc,if_pos ok.1];exact cons_with h.cons ok.1 nw.2
theorem full_all {m w:Nat}{LL:List (List Int)}(hc:cnfB (m:Int) LL=true)(hw:∀ L∈LL,∀ x∈L,litIn (w:Int) x=true)(hwm:w<=m)(hs:solveL (m:Int) LL []=none) :
  ∀ (k:Nat) (d:List Int),Dec_ (w:Int) d->w<k+d.length->∃ C,full (m:Int) LL k d=some C/\C.length+1<=2 ^ (w+1 - d.length)/\∀ L∈C,L.length<=w:=by
 have ff:=fm.cnf_facts hc;intro k
 induction k with
 | zero =>
  intro d hd h;have:=dec_len hd (by omega);omega
 | succ k ih =>
  intro d hd h;have hl:=dec_len hd (by omega);have hneg:(negL d).length<=w:=by unfold sp.negL;rw [List.length_map];exact hl
  cases hf:(frc (LL.map setOf) 49 (setOf d) d).2
  ·refine⟨_,full_stop hf,?_,fun L hL=>?_⟩
   ·have:2 ^ 1<=2 ^ (w+1 - d.length):=Nat.pow_le_pow_right (by decide) (by omega);exact this
   ·rw [List.mem_singleton] at hL;rw [hL];exact hneg
  ·obtain⟨j,hj,hb⟩:=some_free hc hw hwm hs hd.cons hf;obtain⟨x,r,h0,hx⟩:=free_first hc hj hb;have dm:=dec_more hd hx h0;have hl2:=dec_len dm.2 (by omega);rw [List.length_append,List.length_singleton] at hl2;obtain⟨A,hA,lA,sA⟩:=ih _ dm.1 (by rw [List.length_append,List.length_singleton];omega);obtain⟨B,hB,lB,sB⟩:=ih _ dm.2 (by rw [List.length_append,List.length_singleton];omega);refine⟨A++B++[negL d],?_,?_,fun L hL=>?_⟩
   ·rw [full_more hf h0,hA,hB];rfl
   ·rw [List.length_append,List.length_singleton] at lA lB;have e:w+1 - d.length=(w+1 - (d.length+1))+1:=by omega
    rw [e,Nat.pow_succ,List.length_append,List.length_append,List.length_singleton];omega
   ·rcases List.mem_append.1 hL with q | q
    ·rcases List.mem_append.1 q with q | q
     ·exact sA L q
     ·exact sB L q
    ·rw [List.mem_singleton] at q;rw [q];exact hneg
theorem refutes {n:Int}{LL:List (List Int)}{w:Nat}(hc:cnfB n LL=true)(hw:∀ L∈LL,∀ x∈L,litIn (w:Int) x=true)(hwn:(w:Int)<=n)(h8:w<=8)(hs:solveL n LL []=none) :
  (xw.wlk n LL 700 []).2=true/\(xw.wlk n LL 700 []).1.length+1<=2 ^ (w+1)/\∀ L∈(xw.wlk n LL 700 []).1,L.length<=w:=by
 have hf:=fm.cnf_facts hc;obtain⟨m,rfl⟩:=Int.eq_ofNat_of_zero_le hf.1;obtain⟨C,e,l,s⟩:=full_all hc hw (by omega) hs 49 [] (Dec_.nil _) (by rw [List.length_nil];omega);rw [List.length_nil,Nat.sub_zero] at l;have h9:2 ^ (w+1)<=2 ^ 9:=Nat.pow_le_pow_right (by decide) (by omega);have e9:(2:Nat) ^ 9=512:=rfl;have e1:xw.wlk (m:Int) LL 700 []=(C,true):=by
  rw [xw.wlk_full (m:Int) LL 49 700 [] (Nat.le_add_right _ _),e];show (if C.length<=700 then (C,true) else ([],false))=_;rw [if_pos (by omega)]
 rw [e1];exact⟨rfl,l,s⟩
end yw
end Go.Proofs.YtddmmoehlabkiaaGreatDoor
