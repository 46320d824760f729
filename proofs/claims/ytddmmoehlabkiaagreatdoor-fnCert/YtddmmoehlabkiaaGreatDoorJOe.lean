/- What FnAssign draws and asks: lists of values, the literals that are true at them, and that an assignment comes back from its text; whatever the bytes. -/
import Derived.Test.YtddmmoehlabkiaaGreatDoorJOy
import Derived.Test.YtddmmoehlabkiaaGreatDoorJOs
namespace Go.Proofs.YtddmmoehlabkiaaGreatDoor
set_option linter.unusedVariables false
open Go.ChangeShapes Go.WideShapes Go.ChangeAt Go.RowKit
open ra (raB raL)
open yh (refL fnd)
open yi (issO bodyB)
open lq (solveL)
namespace dv
open tr (bitB)
open as_ (tl tl_len litAt asText)
open ra (bit bitsOf goodA)
theorem bit_lit {x:Int}(h:bitB x=true)(i:Nat):bit (litAt i x)=x:=by
 unfold tr.bitB at h;have:=of_decide_eq_true h;have hx:x=0∨x=1:=by omega
 rcases hx with rfl | rfl
 ·have e:litAt i 0 = -(i:Int) - 1:=if_neg (by decide);rw [e];exact if_neg (by omega)
 ·have e:litAt i 1=(i:Int)+1:=if_pos rfl;rw [e];exact if_pos (by omega)
theorem bits_tl (A:List Int):∀ k,A.all bitB=true->bitsOf (tl k A)=A:=by
 induction A with
 | nil=>intro k _;rfl
 | cons x l ih =>
  intro k h;rw [List.all_cons,Bool.and_eq_true] at h;show bit (litAt k x)::bitsOf (tl (k+1) l)=x::l;rw [bit_lit h.1,ih (k+1) h.2]
theorem back {A:List Int}(hl:A.length<=24)(hb:A.all bitB=true) :
  rd.readB (asText A)=true/\rd.readL (asText A)=tl 0 A/\raB (asText A) (A.length:Int)=true/\raL (asText A) (A.length:Int)=A/\raB (asText A) ((A.length:Int)+1)=false:=by
 have e:=as_.asText_yes hl hb;have r:=rd.read_full (ra.tl_okAll hl);have h1:rd.readB (asText A)=true:=by unfold rd.readB;rw [e,r];rfl
 have h2:rd.readL (asText A)=tl 0 A:=by unfold rd.readL;rw [e,r];rfl
 have h3:goodA (tl 0 A)=true:=by unfold ra.goodA;rw [bits_tl A 0 hb];exact decide_eq_true rfl
 have h4:raB (asText A) (A.length:Int)=true:=by unfold ra.raB;rw [h1,h2,h3,tl_len,decide_eq_true rfl];rfl
 refine⟨h1,h2,h4,?_,?_⟩
 ·rw [ra.ra_yes h4,h2,bits_tl A 0 hb]
 ·unfold ra.raB;rw [h2,tl_len,decide_eq_false (by omega)];simp
theorem asText_nil (A:List Int):asText A=[]∨(A.length<=24/\A.all bitB=true/\asText A≠[]):=by
 cases h:(decide (A.length<=24) && A.all bitB)
 ·exact .inl (as_.asText_no h)
 ·rw [Bool.and_eq_true,decide_eq_true_iff] at h;refine .inr ⟨h.1,h.2,?_⟩;rw [as_.asText_yes h.1 h.2,txt.text_yes (ra.tl_okAll h.1)];simp
end dv
namespace ys
open da (digT)
open zr (okM macT)
open yg (sgB)
open tr (trueB)
open xe (checkB)
open rq (RP)
open yb (Cr)
open yi (digB satB markB)
open yv (vfC)
theorem mac_len (key s:ByteArray)(h:key.size<=64)(h2:s.size<=59800):(macT key s).length=32:=by
 unfold zr.macT;rw [if_pos ⟨h,h2⟩];unfold zo.sumT;rw [if_pos (by have:=zr.in2_size key s;omega)];unfold zo.sumL;rw [zo.out4_length]
theorem mark_ok (key d:ByteArray)(sat:Bool)(b:ByteArray)(h:key.size<=64)(h2:(sgB d sat b).size<=59800):okM key (sgB d sat b) (markB key d sat b)=true:=by
 unfold zr.okM;apply decide_eq_true;refine⟨fun e=>?_,rfl⟩;have:=mac_len key _ h h2;rw [e] at this;cases this
theorem iss_parts {key:ByteArray}{n:Int}{LL:List (List Int)}{c:Cr}(h:issO key n LL=some c):digT n LL≠[]/\key.size<=64/\(fnd n LL).2=true/\c=(digB n LL,satB (fnd n LL).1,bodyB (fnd n LL).1,markB key (digB n LL) (satB (fnd n LL).1) (bodyB (fnd n LL).1)):=by
 unfold yi.issO at h
 split at h
 ·cases h
 ·rename_i q
  cases h
  refine⟨fun e=>q (.inl e),Nat.le_of_not_lt (fun e=>q (.inr (.inl e))),?_,rfl⟩;cases e:(fnd n LL).2
  ·exact absurd (.inr (.inr e)) q
  ·rfl
theorem bad_all {n:Int}:∀ (C:List (List Int)) (Ss:List Nat),wm.badN n Ss C=C.length->∀ L∈C,ok.clB n L=true
 | [],_,_,L,hL=>by cases hL
 | K::C,Ss,h,L,hL=>by
  rw [xt.bad_cons] at h
  split at h
  ·rename_i q
   rw [Bool.and_eq_true] at q
   rcases List.mem_cons.1 hL with rfl | hL
   ·exact q.1
   ·exact bad_all C (Ss++[bset.setOf K]) (by rw [List.length_cons] at h;omega) L hL
  ·rw [List.length_cons] at h
   omega
theorem ok_all {n:Int}{L:List Int}(hn:n<=24)(h:ok.clB n L=true):cls.okAll L=true:=by
 unfold ok.clB at h;unfold cls.okAll;rw [Bool.and_eq_true,List.all_eq_true] at h ⊢;refine⟨fun x hx=>?_,h.2⟩;have:=h.1 x hx;unfold ok.litIn at this;rw [Bool.and_eq_true] at this;exact this.1
theorem lines_short:∀ (C:List (List Int)),(cx.lines C).length<=11*(C.map List.length).sum+2*C.length:=by
 intro C
 induction C with
 | nil=>exact Nat.le_refl _
 | cons L C ih =>
  have e:cx.lines (L::C)=txt.text L++[10]++cx.lines C:=rfl;have hb:(txt.text L).length<=11*L.length+1:=by
   unfold txt.text
   split
   ·rename_i h
    have:=txt.body_len L (by unfold cls.okAll at h;rw [Bool.and_eq_true] at h;first | exact h.1 | exact h.2);rw [List.length_append,List.length_singleton];omega
   ·exact Nat.zero_le _
  rw [e,List.length_append,List.length_append,List.length_singleton,List.map_cons,List.sum_cons,List.length_cons];omega
theorem solve_true {n:Int}{LL:List (List Int)}{A:List Int}(h:solveL n LL []=some A):trueB n LL A=true/\A.length<=24/\(A.length:Int)=n/\A.all tr.bitB=true:=by
 unfold lq.solveL at h
 split at h
 ·rename_i q
  rw [Bool.and_eq_true] at q;obtain⟨⟨hl,hb⟩,hp⟩:=lq.lst_some h;have hc:=q.1;have hbits:A.all tr.bitB=true:=by
   rw [List.all_eq_true];intro x hx;unfold tr.bitB;apply decide_eq_true;rcases hb x hx with rfl | rfl <;> decide
  unfold lq.holds at hp;rw [Bool.and_eq_true] at hp;unfold ok.cnfB at q;simp only [Bool.and_eq_true,decide_eq_true_iff] at q;have hn:(A.length:Int)=n:=by omega
  refine⟨?_,by omega,hn,hbits⟩;unfold tr.trueB tr.assignB;rw [hc,decide_eq_true hn,hbits,hp.1];rfl
 ·cases h
theorem issued {key:ByteArray}{n:Int}{LL:List (List Int)}{d b m:ByteArray}{sat:Bool}{O:Option (List (List Int))}(h:issO key n LL=some (d,sat,b,m))(hb:b.size<=59700)(hO:RP (rd.bytes b) O):vfC key n LL d sat b m O=0:=by
 obtain⟨h1,h2,h3,h4⟩:=iss_parts h;simp only [Prod.mk.injEq] at h4;obtain⟨rfl,rfl,rfl,rfl⟩:=h4;have hd:=yi.dig_size n LL;have hd32:(digB n LL).size<=32:=by
  show (digT n LL).toArray.size<=_;rw [List.size_toArray];unfold da.digT
  split
  ·exact zr.sumT_len _
  ·exact Nat.zero_le _
 have hm:=mark_ok key (digB n LL) (satB (fnd n LL).1) (bodyB (fnd n LL).1) h2 (by rw [yg.sg_size];omega);unfold yv.vfC;rw [if_neg (by rw [hm];decide),if_neg (fun q=>by rcases q with q | q;exact h1 q;exact q rfl)];cases hs:solveL n LL [] with
 | some A =>
  have e:fnd n LL=(.inl A,true):=by unfold yh.fnd;rw [hs]
  rw [e] at hO ⊢;obtain⟨t1,t2,t3,t4⟩:=solve_true hs;have bk:=dv.back t2 t4;have eb:rd.bytes (bodyB (.inl A))=as_.asText A:=rfl;rw [if_pos (show satB (Sum.inl A,true).1=true from rfl)];show (if raB (rd.bytes (bodyB (.inl A))) n=false then 3 else if trueB n LL (raL (rd.bytes (bodyB (.inl A))) n)=false then 4 else 0)=0;rw [eb,←t3,if_neg (by rw [bk.2.2.1];decide),bk.2.2.2.1,if_neg (by rw [t3,t1];decide)]
 | none =>
  have e:fnd n LL=(.inr (refL n LL).1,(refL n LL).2):=by unfold yh.fnd;rw [hs]
  rw [e] at hO h3 ⊢;unfold yh.refL at h3 hO ⊢
  split at h3
  ·rename_i hc
   rw [if_pos hc] at hO ⊢;obtain⟨r1,r2,r3⟩:=xs.refute_all hc h3;have cf:=xt.check_facts r1;have n24:n<=24:=by
    have q:=hc;unfold ok.cnfB at q;simp only [Bool.and_eq_true,decide_eq_true_iff] at q;omega
   have hall:(xw.wlk n LL 700 []).1.all cls.okAll=true:=by
    rw [List.all_eq_true];exact fun L hL=>ok_all n24 (bad_all _ _ cf.2.2.1 L hL)
   have ep:rd.bytes (bodyB (.inr (xw.wlk n LL 700 []).1))=cx.lines (xw.wlk n LL 700 []).1:=by
    show pt.prf _=_;unfold pt.prf;rw [decide_eq_true cf.2.1,hall];rfl
   have eO:O=some (xw.wlk n LL 700 []).1:=hO.one (.inl ⟨_,rfl,hall,cf.2.1,ep.symm⟩);subst eO;rw [if_neg (by simp [yi.satB]),if_neg nofun,if_neg (by show ¬ checkB n LL (xw.wlk n LL 700 []).1=false;rw [r1];decide)]
  ·cases h3
theorem truth {key:ByteArray}{n:Int}{LL:List (List Int)}{d b m:ByteArray}{sat:Bool}{O:Option (List (List Int))}(h:vfC key n LL d sat b m O=0):(solveL n LL []).isSome=sat:=by
 unfold yv.vfC at h
 split at h
 ·cases h
 split at h
 ·cases h
 cases sat
 ·rw [if_neg (by decide)] at h
  split at h
  ·cases h
  split at h
  ·cases h
  ·rename_i q
   rw [xs.check_unsat (by cases e:checkB n LL (O.getD []);exact absurd e q;rfl)];rfl
 ·rw [if_pos rfl] at h
  split at h
  ·cases h
  split at h
  ·cases h
  ·rename_i q
   exact yw.true_solve (by cases e:trueB n LL (raL (rd.bytes b) n);exact absurd e q;rfl)
end ys
namespace ys
open lits (okB)
open ok (cnfB litIn)
def Few (n:Int)(LL:List (List Int)):Prop:=∃ w:Nat,w<=7/\(w:Int)<=n/\∀ L∈LL,∀ x∈L,litIn (w:Int) x=true
theorem found_few {n:Int}{LL:List (List Int)}(hc:cnfB n LL=true)(h:Few n LL):(fnd n LL).2=true/\(bodyB (fnd n LL).1).size<=59700:=by
 obtain⟨w,h7,hwn,hw⟩:=h;cases hs:solveL n LL [] with
 | some A =>
  have e:fnd n LL=(.inl A,true):=by unfold yh.fnd;rw [hs]
  rw [e];obtain⟨t1,t2,t3,t4⟩:=solve_true hs;refine⟨rfl,?_⟩;show (as_.asText A).toArray.size<=_;rw [List.size_toArray,as_.asText_yes t2 t4];exact Nat.le_trans (cx.text_len _) (by decide)
 | none =>
  have e:fnd n LL=(.inr (refL n LL).1,(refL n LL).2):=by unfold yh.fnd;rw [hs]
  have er:refL n LL=xw.wlk n LL 700 []:=by unfold yh.refL;rw [if_pos hc]
  rw [e,er];obtain⟨r1,r2,r3⟩:=yw.refutes hc hw hwn (by omega) hs;refine⟨r1,?_⟩;show (pt.prf _).toArray.size<=_;rw [List.size_toArray];have ls:=lines_short (xw.wlk n LL 700 []).1;have ss:=xs.sum_short (m:=7) (fun L hL=>Nat.le_trans (r3 L hL) h7);have p8:2 ^ (w+1)<=2 ^ 8:=Nat.pow_le_pow_right (by decide) (by omega);have e8:(2:Nat) ^ 8=256:=rfl;unfold pt.prf
  split
  ·omega
  ·exact Nat.zero_le _
theorem short_few {key:ByteArray}{n:Int}{LL:List (List Int)}{d b m:ByteArray}{sat:Bool}(h:issO key n LL=some (d,sat,b,m))(hf:cnfB n LL=true->Few n LL):cnfB n LL=true/\b.size<=59700:=by
 obtain⟨h1,h2,h3,h4⟩:=iss_parts h;simp only [Prod.mk.injEq] at h4;obtain⟨rfl,rfl,rfl,rfl⟩:=h4;have hc:cnfB n LL=true:=by
  cases q:cnfB n LL
  ·exfalso
   refine h1 ?_;unfold da.digT cso.srtB;rw [q];rfl
  ·rfl
 exact⟨hc,(found_few hc (hf hc)).2⟩
theorem few_of {n:Int}{LL:List (List Int)}(hc:cnfB n LL=true)(h:n<=7∨∀ L∈LL,∀ x∈L,x≠0/\-7<=x/\x<=7):Few n LL:=by
 have ff:=fm.cnf_facts hc;by_cases h7:n<=7
 ·obtain⟨w,rfl⟩:=Int.eq_ofNat_of_zero_le ff.1;exact⟨w,by omega,Int.le_refl _,fun L hL=>(ff.2.2.2 L hL).2⟩
 ·rcases h with h | h
  ·exact absurd h h7
  ·refine⟨7,Nat.le_refl _,by omega,fun L hL x hx=>?_⟩;have q:=h L hL x hx;unfold ok.litIn;have ok:okB x=true:=lits.okB_iff.2 (by omega);rw [ok,Bool.true_and];apply decide_eq_true;unfold lits.varI;rw [ok];simp only [if_true]
   split <;> omega
end ys
end Go.Proofs.YtddmmoehlabkiaaGreatDoor
