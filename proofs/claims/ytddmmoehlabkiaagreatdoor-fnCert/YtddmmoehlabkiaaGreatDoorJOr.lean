/- Assignments as texts: what trueLiterals, l03Lits and AssignText (of the program and of its model) answer at every list of at most 2^20 numbers, where the library's table of powers lies as its text lays it. -/
import Derived.Test.YtddmmoehlabkiaaGreatDoorJOt
import Derived.Test.YtddmmoehlabkiaaGreatDoorJXTl
import Derived.Lib.AtoiAll
import Derived.Lib.IndexMore
import Derived.WalkSpells
import Derived.Test.YtddmmoehlabkiaaGreatDoorShr
import Derived.Lib.ConvBytes
import Derived.Lib.SmallJoins
import Derived.Lib.Split
import Derived.Test.YtddmmoehlabkiaaGreatDoorJXL4
import Derived.Test.YtddmmoehlabkiaaGreatDoorJOm
namespace Go.Proofs.YtddmmoehlabkiaaGreatDoor
set_option linter.unusedVariables false
set_option maxRecDepth 100000
open Go.ChangeShapes Go.WideShapes Go.ChangeAt Go.RowKit
open sl (Sl grown_refl grown_trans ints Own)
open dec (str)
open tr (bitB)
open txt (Pow text)
open lits (okB okB_iff varI)
open cls (okAll)
open wo (Made)
open css (OwnS)
open cx (lines)
open sl (qH qU qT)
set_option maxHeartbeats 8000000
namespace as_
def asText (A:List Int):List UInt8:=if decide (A.length<=24) && A.all bitB then text (tl 0 A) else []
theorem asText_no {A:List Int}(h:(decide (A.length<=24) && A.all bitB)=false):asText A=[]:=by unfold asText;rw [h];rfl
theorem asText_yes {A:List Int}(h1:A.length<=24)(h2:A.all bitB=true):asText A=text (tl 0 A):=by unfold asText;rw [decide_eq_true h1,h2];rfl
theorem implAssignText (v:Value)(A:List Int)(w:World)(hT:Pow w)(hL:A.length<=1048576)(hv:Sl w v A) :
  Calls Tryz.prog 250 #[v] w fun e w'=>e=.returned (str (asText A))/\w.grownBy w' none:=by
 have CI:=tr.isAssignment v A w hL hv;have TL:=qH (trueLiterals v A w hL hv);obtain⟨a,cap,rfl,ha⟩:=hv;have HT:=qH hT;clear ha hT;by_cases h24:A.length<=24
 ·have h24':¬ (24:Int)<(A.length:Int):=by omega
  cases hb:A.all bitB
  ·rw [hb] at CI;have C1:=qH CI;have E:=qH (asText_no (A:=A) (by rw [hb,Bool.and_false]));clear CI hb;go_enter Tryz.func250,Tryz.ntmps250;go_wp2_with (go_at_call 252;refine (qU C1).mono ?_;rintro e w' ⟨rfl,hw⟩;have hw':=hw.symm;clear hw;subst hw');go_ret;exact⟨by rw [qU E];rfl,grown_refl _⟩
  ·rw [hb] at CI;have C1:=qH CI;have E:=qH (asText_yes h24 hb);have hl:(tl 0 A).length<=1048576:=by rw [tl_len];omega
   clear CI hb;go_enter Tryz.func250,Tryz.ntmps250;go_wp2_with (go_at_call 252;refine (qU C1).mono ?_;rintro e w' ⟨rfl,hw⟩;have hw':=hw.symm;clear hw;subst hw');go_wp2_with fail;refine (qU TL).mono ?_;rintro e w1 ⟨u1,rfl,m1⟩;have CT:=qH (txt.implClauseText u1 (tl 0 A) w1 ((qU HT).kept m1.2) hl (Sl.of_own m1.1));have G1:=qH m1.2;clear m1 TL C1;go_wp2_with fail;refine (qU CT).mono ?_;rintro e w2 ⟨rfl,g2⟩;have G2:=qH (qT (qU G1) g2);clear g2 CT;go_wp2_with fail;go_ret;exact⟨by rw [qU E];rfl,qU G2⟩
 ·have h24':(24:Int)<(A.length:Int):=by omega
  have E:=qH (asText_no (A:=A) (by rw [decide_eq_false h24];rfl));clear CI TL;go_enter Tryz.func250,Tryz.ntmps250;go_wp2_with fail;go_ret;exact⟨by rw [qU E];rfl,grown_refl _⟩
theorem specAssignText (v:Value)(A:List Int)(w:World)(hL:A.length<=1048576)(hv:Sl w v A) :
  Calls Tryz.prog 29 #[v] w fun e w'=>e=.returned (str (asText A))/\w.grownBy w' none:=by
 have TL:=qH (l03Lits v A w hL hv);obtain⟨a,cap,rfl,ha⟩:=hv;have HA:=qH ha;clear ha;by_cases h24:A.length<=24
 ·have h24':¬ (24:Int)<(A.length:Int):=by omega
  go_enter Tryz.func29,Tryz.ntmps29;go_wp2;go_loop [3] (fun i=>∃ k:Nat,k<=A.length/\i=.int .i64 k/\Hid ((A.take k).all bitB=true)) (fun i=>A.length - (intOf i).toNat)
  case atStart=>exact⟨0,Nat.zero_le _,rfl,by show _=_;simp⟩
  case round =>
   obtain⟨k,hk,rfl,hall⟩:=hrel;by_cases hlt:k<A.length
   ·rcases qU HA with h | ⟨b,off,rfl,hb,hcb⟩
    ·rw [h] at hlt;simp at hlt
    ·have c1:=hcb k hlt;have hi':(k:Int)<(A.length:Int):=by omega
     have h1:=ok.all_hit bitB A k 0 hlt;have h2:=ok.all_step bitB A k 0 hlt (qU hall);generalize A.getD k 0=x at *;have cx:=fun w=>ok.l01In x 0 1 w;clear hcb HA hall;cases hx:bitB x
     ·have hx':=hx;unfold tr.bitB at hx';rw [hx'] at cx;have CX:=qH cx;have E:=qH (asText_no (A:=A) (by rw [h1 hx,Bool.and_false]));clear h1 h2 hx hx' cx;go_wp2_with (go_at_call 61;refine (qU CX _).mono ?_;rintro e w' ⟨rfl,rfl⟩);go_ret;exact⟨by rw [qU E];rfl,grown_refl _⟩
     ·have hx':=hx;unfold tr.bitB at hx';rw [hx'] at cx;have CX:=qH cx;have H:=qH (h2 hx);clear h1 h2 hx hx' cx;go_wp2_with (go_at_call 61;refine (qU CX _).mono ?_;rintro e w' ⟨rfl,rfl⟩)
      go_round
      case rel=>exact⟨k+1,by omega,by go_num,H⟩
      case measure=>simp [intOf];omega
   ·have hi':¬ (k:Int)<(A.length:Int):=by omega
    have ha:=ok.all_end bitB A k hlt (qU hall);have E:=qH (asText_yes h24 ha);have hl:(tl 0 A).length<=1048576:=by rw [tl_len];omega
    clear HA hall ha;go_wp2_with fail;refine (qU TL).mono ?_;rintro e w1 ⟨u1,rfl,m1⟩;have CT:=qH (txt.specClauseText u1 (tl 0 A) w1 hl (Sl.of_own m1.1));have G1:=qH m1.2;clear m1 TL;go_wp2_with fail;refine (qU CT).mono ?_;rintro e w2 ⟨rfl,hw⟩;have hw':=hw.symm;clear hw;subst hw';clear CT;go_wp2_with fail;go_ret;exact⟨by rw [qU E];rfl,qU G1⟩
 ·have h24':(24:Int)<(A.length:Int):=by omega
  have E:=qH (asText_no (A:=A) (by rw [decide_eq_false h24];rfl));clear TL;go_enter Tryz.func29,Tryz.ntmps29;go_wp2_with fail;go_ret;exact⟨by rw [qU E];rfl,grown_refl _⟩
end as_
namespace rd
open Go.RowKit
open txt (body)
theorem dec_mem (u:Nat):∀ c∈Lib.decDigits u,48<=c.toNat/\c.toNat<=57:=by
 induction u using Nat.strongRecOn with
 | _ u ih =>
  intro c hc;have one:∀ d,d<10->48<=(UInt8.ofNat (48+d)).toNat/\(UInt8.ofNat (48+d)).toNat<=57:=by decide
  by_cases h:u<10
  ·rw [dec.dec_small h] at hc;rw [List.mem_singleton] at hc;rw [hc];exact one _ (Nat.mod_lt _ (by decide))
  ·rw [dec.dec_big h,List.mem_append] at hc;rcases hc with hc | hc
   ·exact ih (u / 10) (by omega) c hc
   ·rw [List.mem_singleton] at hc;rw [hc];exact one _ (Nat.mod_lt _ (by decide))
def val (l:List UInt8):Nat:=l.foldl (fun a c=>10*a+(c.toNat - 48)) 0
theorem val_snoc (l:List UInt8)(c:UInt8):val (l++[c])=10*val l+(c.toNat - 48):=by simp [val]
theorem digit_val:∀ d,d<10->(UInt8.ofNat (48+d)).toNat - 48=d:=by decide
theorem val_dec (u:Nat):val (Lib.decDigits u)=u:=by
 induction u using Nat.strongRecOn with
 | _ u ih =>
  by_cases h:u<10
  ·rw [dec.dec_small h];show 10*0+((UInt8.ofNat (48+u % 10)).toNat - 48)=u;rw [digit_val _ (Nat.mod_lt _ (by decide))];omega
  ·rw [dec.dec_big h,val_snoc,ih (u / 10) (by omega),digit_val _ (Nat.mod_lt _ (by decide))];omega
theorem dec_ne (u:Nat):Lib.decDigits u≠[]:=by
 intro h;have:=Lib.decDigits_length u;rw [h] at this;have:=Lib.nDigits_pos u;simp at *;omega
theorem dec_head (u:Nat):∀ c r,Lib.decDigits u=c::r->c≠45:=by
 intro c r h e;have:=dec_mem u c (by rw [h];exact List.mem_cons_self);rw [e] at this;simp at this
theorem itoa_blank (x:Int):(32:UInt8)∉Lib.itoa x:=by
 unfold Lib.itoa
 split
 ·intro h;rcases List.mem_cons.1 h with h | h
  ·cases h
  ·have:=dec_mem _ _ h;simp at this
 ·intro h;have:=dec_mem _ _ h;simp at this
def scan (st:List (List UInt8) × List UInt8)(l:List UInt8):List (List UInt8) × List UInt8 :=
 l.foldl (fun st c=>if c=32 then (st.1++[st.2],[]) else (st.1,st.2++[c])) st
def words (l:List UInt8):List (List UInt8):=(scan ([],[]) l).1++[(scan ([],[]) l).2]
theorem scan_plain (st:List (List UInt8) × List UInt8)(a:List UInt8)(h:(32:UInt8)∉a):scan st a=(st.1,st.2++a):=by
 induction a generalizing st with
 | nil=>simp [scan]
 | cons c a ih =>
  rw [List.mem_cons,not_or] at h;have e:scan st (c::a)=scan (st.1,st.2++[c]) a:=by
   show scan (if c=32 then _ else _) a=_;rw [if_neg (fun e=>h.1 e.symm)]
  rw [e,ih _ h.2];simp
theorem scan_append (st:List (List UInt8) × List UInt8)(a b:List UInt8):scan st (a++b)=scan (scan st a) b:=by simp [scan]
theorem scan_word (st:List (List UInt8) × List UInt8)(a r:List UInt8)(h:(32:UInt8)∉a):scan st (a++32::r)=scan (st.1++[st.2++a],[]) r:=by
 rw [scan_append,scan_plain _ _ h];rfl
theorem body_cons (x:Int)(l:List Int):body (x::l)=Lib.itoa x++32::body l:=by simp [body]
theorem scan_body (d:List (List UInt8))(L:List Int):scan (d,[]) (body L++[48])=(d++L.map Lib.itoa,[48]):=by
 induction L generalizing d with
 | nil=>simp [body,scan]
 | cons x l ih =>
  rw [body_cons,List.append_assoc,List.cons_append,scan_word _ _ _ (itoa_blank x),List.nil_append,ih];simp
theorem words_body (L:List Int):words (body L++[48])=L.map Lib.itoa++[[48]]:=by
 unfold words;rw [scan_body];simp
def numDig (s:List UInt8):List UInt8:=if s.head?=some 45 then s.tail else s
def numOk (s:List UInt8):Bool:=decide (1<=(numDig s).length/\(numDig s).length<=9) && (numDig s).all fun c=>decide (48<=c.toNat/\c.toNat<=57)
def numV (s:List UInt8):Int:=if (numDig s).length<s.length then -(val (numDig s):Int) else (val (numDig s):Int)
def num (s:List UInt8):Int × Bool:=if numOk s then (numV s,decide (Lib.itoa (numV s)=s)) else (0,false)
theorem dec_all (u:Nat):(Lib.decDigits u).all (fun c=>decide (48<=c.toNat/\c.toNat<=57))=true:=by
 rw [List.all_eq_true];intro c hc;exact decide_eq_true (dec_mem u c hc)
theorem dec_len {u:Nat}(h:u<10 ^ 9):1<=(Lib.decDigits u).length/\(Lib.decDigits u).length<=9:=by
 rw [Lib.decDigits_length];exact⟨Lib.nDigits_pos u,dec.nDigits_le 9 u (by decide) h⟩
theorem dig_pos (u:Nat):numDig (Lib.decDigits u)=Lib.decDigits u:=by
 unfold numDig;rw [if_neg];intro h;cases e:Lib.decDigits u with
 | nil=>exact dec_ne u e
 | cons c r =>
  rw [e] at h;exact dec_head u c r e (Option.some.inj h)
theorem num_itoa {x:Int}(h1 : -1000000000<x)(h2:x<1000000000):num (Lib.itoa x)=(x,true):=by
 have key:numOk (Lib.itoa x)=true/\numV (Lib.itoa x)=x:=by
  unfold numOk numV Lib.itoa
  split
  ·have e:numDig (45::Lib.decDigits x.natAbs)=Lib.decDigits x.natAbs:=by simp [numDig]
   rw [e,dec_all,decide_eq_true (dec_len (by omega)),if_pos (by simp),val_dec];exact⟨rfl,by omega⟩
  ·rw [dig_pos,dec_all,decide_eq_true (dec_len (by omega)),if_neg (by omega),val_dec];exact⟨rfl,by omega⟩
 unfold num;rw [key.1,key.2,decide_eq_true rfl];rfl
def lit (s:List UInt8):Option Int:=match Lib.atoiAll s with
 | .ok v=>if okB v && decide (Lib.itoa v=s) then some v else none
 | _=>none
def cutW (s:List UInt8):List UInt8 × List UInt8 × Bool:=Lib.cut s [32]
def clause:Nat->List UInt8->Option (List Int)
 | 0,s=>if s=[48] then some [] else none
 | n+1,s=>if s=[48] then some [] else if (cutW s).2.2 then (match lit (cutW s).1 with
  | some x=>(clause n (cutW s).2.1).map (x::·)
  | none=>none) else none
theorem index_cons (b:UInt8)(l:List UInt8):Lib.index (b::l) [32]=if b=32 then 0 else if Lib.index l [32] = -1 then -1 else Lib.index l [32]+1:=by
 conv=>lhs;unfold Lib.index
 by_cases h:b=32
 ·rw [if_pos (by simp [h]),if_pos h]
 ·rw [if_neg (by simp;exact fun e=>h e.symm),if_neg h];simp [beq_iff_eq]
theorem cut_spec (s:List UInt8):(∃ a r,s=a++32::r/\(32:UInt8)∉a/\Lib.index s [32]=(a.length:Int))∨((32:UInt8)∉s/\Lib.index s [32] = -1):=by
 induction s with
 | nil=>exact .inr ⟨by simp,by simp [Lib.index]⟩
 | cons b l ih =>
  rw [index_cons];by_cases h:b=32
  ·exact .inl ⟨[],l,by simp [h],by simp,by simp [h]⟩
  ·rw [if_neg h];rcases ih with ⟨a,r,e,ha,hi⟩ | ⟨ha,hi⟩
   ·refine .inl ⟨b::a,r,by simp [e],?_,?_⟩
    ·rw [List.mem_cons,not_or];exact⟨fun e=>h e.symm,ha⟩
    ·rw [hi,if_neg (by omega)];simp
   ·refine .inr ⟨?_,by rw [hi];rfl⟩;rw [List.mem_cons,not_or];exact⟨fun e=>h e.symm,ha⟩
theorem blank_unique {a b r t:List UInt8}(ha:(32:UInt8)∉a)(hb:(32:UInt8)∉b)(h:a++32::r=b++32::t):a=b/\r=t:=by
 induction a generalizing b with
 | nil =>
  cases b with
  | nil=>simp at h;exact⟨rfl,h⟩
  | cons c b=>simp at h;exact absurd h.1.symm (fun e=>hb (by rw [e];exact List.mem_cons_self))
 | cons d a ih =>
  cases b with
  | nil=>simp at h;exact absurd h.1 (fun e=>ha (by rw [e];exact List.mem_cons_self))
  | cons c b =>
   simp at h;rw [List.mem_cons,not_or] at ha hb;have:=ih ha.2 hb.2 h.2;exact⟨by rw [h.1,this.1],this.2⟩
theorem cut_word {a:List UInt8}(r:List UInt8)(ha:(32:UInt8)∉a):cutW (a++32::r)=(a,r,true):=by
 rcases cut_spec (a++32::r) with ⟨b,t,e,hb,hi⟩ | ⟨h,_⟩
 ·obtain⟨rfl,rfl⟩:=blank_unique ha hb e;unfold cutW Lib.cut;rw [hi,if_pos (by omega)];simp
 ·exact absurd (by simp) h
theorem cut_sound {s:List UInt8}(h:(cutW s).2.2=true):s=(cutW s).1++32::(cutW s).2.1/\(cutW s).2.1.length<s.length:=by
 rcases cut_spec s with ⟨b,t,e,hb,hi⟩ | ⟨_,hi⟩
 ·rw [e,cut_word t hb];exact⟨rfl,by simp;omega⟩
 ·unfold cutW Lib.cut at h;rw [hi] at h;simp at h
def dec2 (u:Nat):List UInt8:=if u<10 then [UInt8.ofNat (48+u % 10)] else [UInt8.ofNat (48+u / 10 % 10),UInt8.ofNat (48+u % 10)]
theorem dec_dec2 {u:Nat}(h:u<100):Lib.decDigits u=dec2 u:=by
 unfold dec2
 split
 ·exact dec.dec_small ‹_›
 ·rw [dec.dec_big ‹_›,dec.dec_small (by omega)];rfl
theorem atoi_pos:∀ u:Fin 25,(match Lib.atoiAll (dec2 u.val) with | .ok v=>decide (v=(u.val:Int)) | _=>false)=true:=by decide
theorem atoi_neg:∀ u:Fin 25,(match Lib.atoiAll (45::dec2 u.val) with | .ok v=>decide (v = -(u.val:Int)) | _=>false)=true:=by decide
theorem ok_of {e:Lib.NumEnd Int}{x:Int}(h:(match e with | .ok v=>decide (v=x) | _=>false)=true):e=.ok x:=by
 cases e with
 | ok v=>rw [of_decide_eq_true h]
 | _=>cases h
theorem atoi_lit {x:Int}(h:okB x=true):Lib.atoiAll (Lib.itoa x)=.ok x:=by
 have a:=okB_iff.1 h;unfold Lib.itoa
 split
 ·rw [dec_dec2 (by omega)];have:=ok_of (atoi_neg ⟨x.natAbs,by omega⟩);rw [this];congr 1;simp;omega
 ·rw [dec_dec2 (by omega)];have:=ok_of (atoi_pos ⟨x.toNat,by omega⟩);rw [this];congr 1;simp;omega
theorem lit_itoa {x:Int}(h:okB x=true):lit (Lib.itoa x)=some x:=by
 unfold lit;rw [atoi_lit h];simp [h]
theorem lit_sound {s:List UInt8}{x:Int}(h:lit s=some x):okB x=true/\Lib.itoa x=s:=by
 unfold lit at h
 split at h
 ·split at h
  ·rename_i v _ hv
   rw [Bool.and_eq_true,decide_eq_true_iff] at hv;obtain rfl:=Option.some.inj h;exact hv
  ·cases h
 ·cases h
theorem clause_sound {n:Nat}{s:List UInt8}{L:List Int}(h:clause n s=some L):L.all okB=true/\L.length<=n/\body L++[48]=s:=by
 induction n generalizing s L with
 | zero =>
  unfold clause at h
  split at h
  ·obtain rfl:=Option.some.inj h;exact⟨rfl,Nat.le_refl _,by rw [‹s=[48]›];rfl⟩
  ·cases h
 | succ n ih =>
  unfold clause at h
  split at h
  ·obtain rfl:=Option.some.inj h;exact⟨rfl,Nat.zero_le _,by rw [‹s=[48]›];rfl⟩
  ·split at h
   ·rename_i hf
    cases hl:lit (cutW s).1 with
    | none=>rw [hl] at h;cases h
    | some x =>
     rw [hl] at h;obtain⟨l,hc,rfl⟩:=Option.map_eq_some_iff.1 h;have h1:=ih hc;have h2:=lit_sound hl;have h3:=cut_sound hf;refine⟨by rw [List.all_cons,h2.1,h1.1];rfl,by rw [List.length_cons];omega,?_⟩;rw [body_cons,List.append_assoc,List.cons_append,h1.2.2,h2.2];exact h3.1.symm
   ·cases h
theorem clause_full {L:List Int}(hok:L.all okB=true):∀ n,L.length<=n->clause n (body L++[48])=some L:=by
 induction L with
 | nil=>intro n _;cases n <;> rfl
 | cons x l ih =>
  intro n hn;cases n with
  | zero=>simp at hn
  | succ n =>
   rw [List.all_cons,Bool.and_eq_true] at hok;have hw:cutW (body (x::l)++[48])=(Lib.itoa x,body l++[48],true):=by
    rw [body_cons,List.append_assoc,List.cons_append];exact cut_word _ (itoa_blank x)
   have hne:¬ body (x::l)++[48]=[48]:=by
    intro e;have:(32:UInt8)∈body (x::l)++[48]:=by rw [body_cons];simp
    rw [e] at this;simp at this
   unfold clause;rw [if_neg hne,hw];simp only [if_true,lit_itoa hok.1,ih hok.2 n (by simpa using hn),Option.map_some]
def read (s:List UInt8):Option (List Int):=clause 48 s
def readL (s:List UInt8):List Int:=(read s).getD []
def readB (s:List UInt8):Bool:=(read s).isSome
theorem read_sound {s:List UInt8}{L:List Int}(h:read s=some L):okAll L=true/\text L=s:=by
 have h1:=clause_sound h;have hok:okAll L=true:=by
  unfold okAll;rw [h1.1,decide_eq_true h1.2.1];rfl
 exact⟨hok,by rw [txt.text_yes hok];exact h1.2.2⟩
theorem read_full {L:List Int}(hok:okAll L=true):read (text L)=some L:=by
 rw [txt.text_yes hok];unfold okAll at hok;rw [Bool.and_eq_true,decide_eq_true_iff] at hok;exact clause_full hok.1 48 hok.2
theorem read_len (s:List UInt8):(readL s).length<=48:=by
 unfold readL;cases h:read s with
 | none=>exact Nat.zero_le _
 | some L=>exact (clause_sound h).2.1
end rd
namespace rd
def bytes (s:ByteArray):List UInt8:=s.data.toList
theorem toList_bytes (s:ByteArray):s.toList=bytes s:=ByteArray.toList_eq s
theorem bytes_len (s:ByteArray):(bytes s).length=s.size:=by unfold bytes;rw [Array.length_toList];rfl
theorem bytes_extract (s:ByteArray)(a b:Nat):bytes (s.extract a b)=((bytes s).take b).drop a:=by
 unfold bytes;rw [ByteArray.data_extract,Array.toList_extract,List.drop_take]
theorem bytes_take (s:ByteArray)(k:Nat)(h:k<s.size):(bytes s).take (k+1)=(bytes s).take k++[s[k]]:=by
 unfold bytes;rw [List.take_succ_eq_append_getElem (by rw [Array.length_toList];exact h)];rfl
theorem bytes_mem (s:ByteArray)(k:Nat)(h:k<s.size):s[k]∈bytes s:=by
 unfold bytes;exact Array.getElem_mem_toList (h:=h)
theorem val_lt (l:List UInt8)(h:l.all (fun c=>decide (48<=c.toNat/\c.toNat<=57))=true):val l<10 ^ l.length:=by
 have gen:∀ (l:List UInt8) (a k:Nat),l.all (fun c=>decide (48<=c.toNat/\c.toNat<=57))=true->a<10 ^ k->l.foldl (fun a c=>10*a+(c.toNat - 48)) a<10 ^ (k+l.length):=by
  intro l
  induction l with
  | nil=>intro a k _ h;exact h
  | cons c l ih =>
   intro a k hl ha;rw [List.all_cons,Bool.and_eq_true,decide_eq_true_iff] at hl;rw [List.foldl_cons,List.length_cons,show k+(l.length+1)=(k+1)+l.length from by omega];refine ih _ _ hl.2 ?_;rw [Nat.pow_succ];omega
 have:=gen l 0 0 h (by decide)
 rwa [Nat.zero_add] at this
theorem inC (x:Int)(w:World):Calls Tryz.prog 61 #[.int .i64 x,.int .i64 48,.int .i64 57] w fun e w'=>e=.returned (.bool (decide (48<=x/\x<=57)))/\w'=w:=by
 by_cases h1:48<=x
 ·by_cases h2:x<=57
  ·rw [decide_eq_true ⟨h1,h2⟩];go_enter Tryz.func61,Tryz.ntmps61;go_wp2;go_ret;exact⟨rfl,rfl⟩
  ·rw [decide_eq_false (fun h=>h2 h.2)];go_enter Tryz.func61,Tryz.ntmps61;go_wp2;go_ret;exact⟨rfl,rfl⟩
 ·rw [decide_eq_false (fun h=>h1 h.1)];have h1':decide (48<=x)=false:=decide_eq_false h1;go_enter Tryz.func61,Tryz.ntmps61;go_wp2;go_ret;exact⟨rfl,rfl⟩
def dig (l:List UInt8):Bool:=l.all fun c=>decide (48<=c.toNat/\c.toNat<=57)
theorem dig_hit (s:ByteArray)(k:Nat)(h:k<s.size)(hx:decide (48<=(s[k].toNat:Int)/\(s[k].toNat:Int)<=57)=false):dig (bytes s)=false:=by
 unfold dig;rw [List.all_eq_false];refine⟨s[k],bytes_mem s k h,?_⟩;rw [decide_eq_false_iff_not] at hx;simp only [decide_eq_true_iff];omega
theorem dig_step (s:ByteArray)(k:Nat)(h:k<s.size)(hd:dig ((bytes s).take k)=true)(hx:decide (48<=(s[k].toNat:Int)/\(s[k].toNat:Int)<=57)=true):dig ((bytes s).take (k+1))=true:=by
 unfold dig at *;rw [bytes_take s k h,List.all_append,hd];rw [decide_eq_true_iff] at hx;simp only [List.all_cons,List.all_nil,Bool.and_true,Bool.true_and,decide_eq_true_iff];omega
theorem val_step (s:ByteArray)(k:Nat)(h:k<s.size)(hx:decide (48<=(s[k].toNat:Int)/\(s[k].toNat:Int)<=57)=true):((val ((bytes s).take (k+1)):Nat):Int)=10*((val ((bytes s).take k):Nat):Int)+(s[k].toNat:Int) - 48:=by
 rw [decide_eq_true_iff] at hx;rw [bytes_take s k h,val_snoc];omega
theorem val_small (s:ByteArray)(k:Nat)(h9:s.size<=9)(hd:dig ((bytes s).take k)=true):val ((bytes s).take k)<1000000000:=by
 have h1:=val_lt _ hd;have h2:((bytes s).take k).length<=9:=by
  rw [List.length_take,bytes_len];omega
 have h3:10 ^ ((bytes s).take k).length<=10 ^ 9:=Nat.pow_le_pow_right (by decide) h2;omega
theorem ret_eq (n:Int)(q:List UInt8)(s:ByteArray):Ending.returned (.tuple #[.int .i64 n,.bool (q == s.toList)])=.returned (.tuple #[.int .i64 n,.bool (decide (q=bytes s))]):=by
 rw [show (q == s.toList)=decide (q=bytes s) from by rw [Bool.eq_iff_iff,beq_iff_eq,decide_eq_true_iff,toList_bytes]]
def fin (neg:Bool)(s d:List UInt8):Int × Bool:=if dig d then ((if neg then -((val d:Nat):Int) else ((val d:Nat):Int)),decide (Lib.itoa (if neg then -((val d:Nat):Int) else ((val d:Nat):Int))=s)) else (0,false)
theorem fin_no {neg:Bool}{s d:List UInt8}(h:dig d=false):fin neg s d=(0,false):=by unfold fin;rw [h];rfl
theorem fin_neg {s d:List UInt8}(h:dig d=true):fin true s d=(-((val d:Nat):Int),decide (Lib.itoa (-((val d:Nat):Int))=s)):=by unfold fin;rw [h];rfl
theorem fin_pos {s d:List UInt8}(h:dig d=true):fin false s d=(((val d:Nat):Int),decide (Lib.itoa ((val d:Nat):Int)=s)):=by unfold fin;rw [h];rfl
theorem numMinus (s d:ByteArray)(w:World)(hs:0<s.size)(h45:((s[0].toNat:Int) == 45)=true)(hex:s.extract 1 s.size=d)(hsz:d.size+1=s.size)(h1:1<=d.size)(h9:d.size<=9) :
  Calls Tryz.prog 135 #[.string s] w fun e w'=>e=.returned (.tuple #[.int .i64 (fin true (bytes s) (bytes d)).1,.bool (fin true (bytes s) (bytes d)).2])/\w'=w:=by
 have e0:(((d.size:Nat):Int) == 0)=false:=by rw [beq_eq_false_iff_ne];omega
 have e9:decide ((9:Int)<((d.size:Nat):Int))=false:=decide_eq_false (by omega);have hlt0:((d.size:Nat):Int)<((s.size:Nat):Int):=by omega
 have hs0:(0:Int)<((s.size:Nat):Int):=by omega
 go_enter Tryz.func135,Tryz.ntmps135;go_wp2;go_loop [5,6] (fun n i=>∃ k:Nat,k<=d.size/\i=.int .i64 k/\n=.int .i64 ((val ((bytes d).take k):Nat):Int)/\Hid (dig ((bytes d).take k)=true)) (fun _ i=>d.size - (intOf i).toNat)
 case atStart=>exact⟨0,Nat.zero_le _,rfl,rfl,rfl⟩
 case round =>
  obtain⟨k,hk,rfl,rfl,hd⟩:=hrel;have hvs:=val_small d k h9 (qU hd);by_cases hlt:k<d.size
  ·have hi':(k:Int)<(d.size:Int):=by omega
   have vs:=val_step d k hlt;have ds:=dig_step d k hlt (qU hd);have dh:=dig_hit d k hlt;have hb:(d[k].toNat:Int)<256:=by have:=d[k].toNat_lt;omega
   have CI:=qH (inC (d[k].toNat:Int) w);generalize ((val ((bytes d).take k):Nat))=m at *;cases hx:decide (48<=(d[k].toNat:Int)/\(d[k].toNat:Int)<=57)
   ·rw [hx] at CI;have H:=qH (dh hx);clear vs ds dh hx hd;go_wp2_with (go_at_call 61;refine (qU CI).mono ?_;rintro e w2 ⟨rfl,hw⟩;have hw':=hw.symm;clear hw;subst hw');go_ret2;exact⟨by rw [fin_no (qU H)];rfl,rfl⟩
   ·rw [hx] at CI;have V:=qH (vs hx);have D:=qH (ds hx);rw [decide_eq_true_iff] at hx;obtain⟨x0,x1⟩:=hx;clear vs ds dh hd;go_wp2_with (go_at_call 61;refine (qU CI).mono ?_;rintro e w2 ⟨rfl,hw⟩;have hw':=hw.symm;clear hw;subst hw')
    go_round
    case rel=>exact⟨k+1,by omega,by go_num,by rw [qU V],D⟩
    case measure=>simp [intOf];omega
  ·have hi':¬ (k:Int)<(d.size:Int):=by omega
   have e:(bytes d).take k=bytes d:=List.take_of_length_le (by rw [bytes_len];omega);rw [e] at hd hvs;rw [e];clear e;have CD:=qH (dec.l01Dec (-((val (bytes d):Nat):Int)) w (by omega) (by omega));unfold str at CD;have hd':=qU hd;have HD:=qH hd';clear hd hd';generalize hm:val (bytes d)=m at *;generalize hq:Lib.itoa (-(m:Int))=q at *;have HM:=qH hm;have HQ:=qH hq;clear hm hq;go_wp2_with (go_at_call 110;refine (qU CD).mono ?_;rintro e w2 ⟨rfl,hw⟩;have hw':=hw.symm;clear hw;subst hw');go_ret2;refine⟨?_,rfl⟩;rw [fin_neg (qU HD)];show _=Ending.returned (.tuple #[.int .i64 (-((val (bytes d):Nat):Int)),.bool (decide (Lib.itoa (-((val (bytes d):Nat):Int))=bytes s))])
   rw [qU HM,qU HQ];exact ret_eq _ _ _
theorem numPlain (d:ByteArray)(w:World)(hs:0<d.size)(h45:((d[0].toNat:Int) == 45)=false)(h1:1<=d.size)(h9:d.size<=9) :
  Calls Tryz.prog 135 #[.string d] w fun e w'=>e=.returned (.tuple #[.int .i64 (fin false (bytes d) (bytes d)).1,.bool (fin false (bytes d) (bytes d)).2])/\w'=w:=by
 have e0:(((d.size:Nat):Int) == 0)=false:=by rw [beq_eq_false_iff_ne];omega
 have e9:decide ((9:Int)<((d.size:Nat):Int))=false:=decide_eq_false (by omega);have hs0:(0:Int)<((d.size:Nat):Int):=by omega
 go_enter Tryz.func135,Tryz.ntmps135;go_wp2;go_loop [5,6] (fun n i=>∃ k:Nat,k<=d.size/\i=.int .i64 k/\n=.int .i64 ((val ((bytes d).take k):Nat):Int)/\Hid (dig ((bytes d).take k)=true)) (fun _ i=>d.size - (intOf i).toNat)
 case atStart=>exact⟨0,Nat.zero_le _,rfl,rfl,rfl⟩
 case round =>
  obtain⟨k,hk,rfl,rfl,hd⟩:=hrel;have hvs:=val_small d k h9 (qU hd);by_cases hlt:k<d.size
  ·have hi':(k:Int)<(d.size:Int):=by omega
   have vs:=val_step d k hlt;have ds:=dig_step d k hlt (qU hd);have dh:=dig_hit d k hlt;have hb:(d[k].toNat:Int)<256:=by have:=d[k].toNat_lt;omega
   have CI:=qH (inC (d[k].toNat:Int) w);generalize ((val ((bytes d).take k):Nat))=m at *;cases hx:decide (48<=(d[k].toNat:Int)/\(d[k].toNat:Int)<=57)
   ·rw [hx] at CI;have H:=qH (dh hx);clear vs ds dh hx hd;go_wp2_with (go_at_call 61;refine (qU CI).mono ?_;rintro e w2 ⟨rfl,hw⟩;have hw':=hw.symm;clear hw;subst hw');go_ret2;exact⟨by rw [fin_no (qU H)];rfl,rfl⟩
   ·rw [hx] at CI;have V:=qH (vs hx);have D:=qH (ds hx);rw [decide_eq_true_iff] at hx;obtain⟨x0,x1⟩:=hx;clear vs ds dh hd;go_wp2_with (go_at_call 61;refine (qU CI).mono ?_;rintro e w2 ⟨rfl,hw⟩;have hw':=hw.symm;clear hw;subst hw')
    go_round
    case rel=>exact⟨k+1,by omega,by go_num,by rw [qU V],D⟩
    case measure=>simp [intOf];omega
  ·have hi':¬ (k:Int)<(d.size:Int):=by omega
   have e:(bytes d).take k=bytes d:=List.take_of_length_le (by rw [bytes_len];omega);rw [e] at hd hvs;rw [e];clear e;have CD:=qH (dec.l01Dec (((val (bytes d):Nat):Int)) w (by omega) (by omega));unfold str at CD;have hd':=qU hd;have HD:=qH hd';clear hd hd';generalize hm:val (bytes d)=m at *;generalize hq:Lib.itoa ((m:Int))=q at *;have HM:=qH hm;have HQ:=qH hq;clear hm hq;go_wp2_with (go_at_call 110;refine (qU CD).mono ?_;rintro e w2 ⟨rfl,hw⟩;have hw':=hw.symm;clear hw;subst hw');go_ret2;refine⟨?_,rfl⟩;rw [fin_pos (qU HD)];show _=Ending.returned (.tuple #[.int .i64 (((val (bytes d):Nat):Int)),.bool (decide (Lib.itoa (((val (bytes d):Nat):Int))=bytes d))])
   rw [qU HM,qU HQ];exact ret_eq _ _ _
theorem num_fin {l:List UInt8}(h:decide (1<=(numDig l).length/\(numDig l).length<=9)=true)(neg:Bool)(hn:neg=decide ((numDig l).length<l.length)):num l=fin neg l (numDig l):=by
 unfold num numOk numV fin;rw [h,Bool.true_and,hn];show (if dig (numDig l) then _ else _)=_;by_cases h2:(numDig l).length<l.length
 ·rw [decide_eq_true h2,if_pos h2];rfl
 ·rw [decide_eq_false h2,if_neg h2];rfl
theorem num_no {l:List UInt8}(h:decide (1<=(numDig l).length/\(numDig l).length<=9)=false):num l=(0,false):=by
 unfold num numOk;rw [h];rfl
theorem l01Num (s:ByteArray)(w:World)(hmax:s.size<=1048576) :
  Calls Tryz.prog 135 #[.string s] w fun e w'=>e=.returned (.tuple #[.int .i64 (num (bytes s)).1,.bool (num (bytes s)).2])/\w'=w:=by
 by_cases hs:0<s.size
 ·have hhead:(bytes s).head?=some s[0]:=by
   unfold bytes;rw [List.head?_eq_getElem?,Array.getElem?_toList];exact Array.getElem?_eq_getElem hs
  cases h45:((s[0].toNat:Int) == 45)
  ·have hne:¬ s[0]=45:=by
    intro e;rw [e] at h45;cases h45
   have hd:numDig (bytes s)=bytes s:=by
    unfold numDig;rw [if_neg (by rw [hhead];exact fun e=>hne (Option.some.inj e))]
   by_cases h9:s.size<=9
   ·have e:=num_fin (l:=bytes s) (by rw [hd,bytes_len];exact decide_eq_true ⟨hs,h9⟩) false (by rw [hd];simp);rw [e,hd];exact numPlain s w hs h45 hs h9
   ·rw [num_no (by rw [hd,bytes_len];exact decide_eq_false (by omega))];have e0:(((s.size:Nat):Int) == 0)=false:=by rw [beq_eq_false_iff_ne];omega
    have e9:decide ((9:Int)<((s.size:Nat):Int))=true:=decide_eq_true (by omega);have hs0:(0:Int)<((s.size:Nat):Int):=by omega
    clear hd hne hhead;go_enter Tryz.func135,Tryz.ntmps135;go_wp2;go_ret2;exact⟨rfl,rfl⟩
  ·have hye:s[0]=45:=by
    have:=beq_iff_eq.1 h45;apply UInt8.toNat_inj.1;show s[0].toNat=45;omega
   obtain⟨d,hex⟩:∃ d,s.extract 1 s.size=d:=⟨_,rfl⟩;have hbd:bytes d=(bytes s).tail:=by
    rw [←hex,bytes_extract,List.take_of_length_le (by rw [bytes_len];exact Nat.le_refl _),List.drop_one]
   have hsz:d.size+1=s.size:=by
    have h1:=bytes_len d;rw [hbd,List.length_tail,bytes_len] at h1;omega
   have hd:numDig (bytes s)=bytes d:=by
    unfold numDig;rw [if_pos (by rw [hhead,hye]),hbd]
   by_cases h9:1<=d.size/\d.size<=9
   ·have e:=num_fin (l:=bytes s) (by rw [hd,bytes_len];exact decide_eq_true h9) true (by rw [hd,bytes_len,bytes_len];exact (decide_eq_true (by omega)).symm);rw [e,hd];exact numMinus s d w hs h45 hex hsz h9.1 h9.2
   ·rw [num_no (by rw [hd,bytes_len];exact decide_eq_false h9)];clear hd hbd hye hhead;have hs0:(0:Int)<((s.size:Nat):Int):=by omega
    by_cases hz:d.size=0
    ·have e0:(((d.size:Nat):Int) == 0)=true:=by rw [beq_iff_eq];omega
     clear h9 hz;go_enter Tryz.func135,Tryz.ntmps135;go_wp2;go_ret2;exact⟨rfl,rfl⟩
    ·have e0:(((d.size:Nat):Int) == 0)=false:=by rw [beq_eq_false_iff_ne];omega
     have e9:decide ((9:Int)<((d.size:Nat):Int))=true:=decide_eq_true (by omega);clear h9 hz;go_enter Tryz.func135,Tryz.ntmps135;go_wp2;go_ret2;exact⟨rfl,rfl⟩
 ·have e:bytes s=[]:=List.eq_nil_of_length_eq_zero (by rw [bytes_len];omega);rw [e];have hz:s.size=0:=by omega
  have hz':decide ((0:Int)<((s.size:Nat):Int))=false:=decide_eq_false (by omega);have e0:(((s.size:Nat):Int) == 0)=true:=by rw [beq_iff_eq];omega
  clear hs e hz;go_enter Tryz.func135,Tryz.ntmps135;go_wp2;go_ret2;exact⟨rfl,rfl⟩
end rd
namespace rd
theorem infoS:(Tryz.prog.info? 9).map (fun i=>(i.zero,i.size,i.bytes))=some (some (.string ⟨#[]⟩),1,16):=by kernel_rfl
def strs (D:List ByteArray):List Value:=D.map Value.string
def MadeS (w w1:World)(v:Value)(D:List ByteArray):Prop:=w1.ownsRow w.heap.size 9 1 v D.length (strs D)/\w.grownBy w1 none
theorem appendS {ops:Array Oper}{rest:List Oper}{o:Oper}{a:Act}{Q:Exit->Act->World->Prop}{w wr:World}{v:Value}{D:List ByteArray}{y:ByteArray}
  (hm:MadeS w wr v D) (hM:D.length<=4194304) (hgd:o.guard=none) (s x:Operand)
  (ho:o.op=.call { callee:=.builtin .append,args:=#[s,x],argTypes:=#[132,132] }) (hs:a.eval s=v) (hx:a.eval x=.slice (some ⟨wr.heap.size,0,none⟩) 1 1)
  (h:∀ v' w1,MadeS w w1 v' (D++[y])->wpList Tryz.prog ops Q rest (a.put o.dst v') w1) :
  wpList Tryz.prog ops Q (o::rest) a (wr.alloc (.cells #[.string y] 9)):=by
 obtain⟨i0,hi,hz0,hz1,hz2⟩:=info_parts infoS;obtain⟨hown,hg⟩:=hm;have hsz:=hg.size;refine wpList_append_own _ hgd s x 132 ho w.heap.size 9 i0 (.string ⟨#[]⟩) 1 16 Tryz.underlying132 hi hz0 hz1 hz2 rfl (by decide) v D.length (strs D) hs (hown.alloc _) ⟨wr.heap.size,0,none⟩ 1 1 [.string y] hx rfl ?_ ?_ ?_ ?_ ?_ ?_
 ·intro j u hj
  match j,hj with
  | 0,hj=>simp at hj;subst hj;simp [Addr.add]
 ·intro u hu;simp at hu;subst hu;rfl
 ·unfold maxLen;omega
 ·omega
 ·simp;omega
 ·intro v' w1 hown' hgrow _;refine h v' w1 ⟨?_,⟨hgrow.os.trans hg.os,hgrow.tape.trans hg.tape,hgrow.output.trans hg.output,?_,fun k hk _=>?_⟩⟩
  ·have e1:(D++[y]).length=D.length+1:=by simp
   have e2:strs (D++[y])=strs D++[.string y]:=by simp [strs]
   rw [e1,e2];exact hown'
  ·have h1:=hgrow.size;simp at h1;omega
  ·rw [hgrow.block k (by simp;omega) (fun e=>by have:=(hown.lt k e.symm).1;omega),Below.heap_alloc _ _ _ (by omega)];exact hg.block k hk nofun
def MidS (s:ByteArray)(k f:Nat)(D:List ByteArray):Prop:=D.map bytes=(scan ([],[]) ((bytes s).take k)).1/\((bytes s).take k).drop f=(scan ([],[]) ((bytes s).take k)).2/\f<=k/\D.length<=k
theorem midS_blank {s:ByteArray}{k f:Nat}{D:List ByteArray}(h:MidS s k f D)(hk:k<s.size)(hb:s[k]=32):MidS s (k+1) (k+1) (D++[s.extract f k]):=by
 obtain⟨h1,h2,h3,h4⟩:=h;have e:scan ([],[]) ((bytes s).take (k+1))=((scan ([],[]) ((bytes s).take k)).1++[(scan ([],[]) ((bytes s).take k)).2],[]):=by
  rw [bytes_take s k hk,scan_append,hb];rfl
 refine⟨?_,?_,Nat.le_refl _,by simp;omega⟩
 ·rw [e,List.map_append,h1,List.map_cons,List.map_nil,bytes_extract,h2]
 ·rw [e];exact List.drop_eq_nil_of_le (by rw [List.length_take];omega)
theorem midS_other {s:ByteArray}{k f:Nat}{D:List ByteArray}(h:MidS s k f D)(hk:k<s.size)(hb:¬ s[k]=32):MidS s (k+1) f D:=by
 obtain⟨h1,h2,h3,h4⟩:=h;have e:scan ([],[]) ((bytes s).take (k+1))=((scan ([],[]) ((bytes s).take k)).1,(scan ([],[]) ((bytes s).take k)).2++[s[k]]):=by
  rw [bytes_take s k hk,scan_append];show (if s[k]=32 then _ else _)=_;rw [if_neg hb]
 refine⟨by rw [e];exact h1,?_,by omega,by omega⟩;rw [e,bytes_take s k hk,List.drop_append_of_le_length (by rw [List.length_take,bytes_len];omega),h2]
theorem midS_end {s:ByteArray}{k f:Nat}{D:List ByteArray}(h:MidS s k f D)(hk:¬ k<s.size):(D++[s.extract f s.size]).map bytes=words (bytes s)/\(D++[s.extract f s.size]).length<=k+1:=by
 obtain⟨h1,h2,h3,h4⟩:=h;have e:(bytes s).take k=bytes s:=List.take_of_length_le (by rw [bytes_len];omega);rw [e] at h1 h2;refine⟨?_,by simp;omega⟩;unfold words;rw [List.map_append,h1,List.map_cons,List.map_nil,bytes_extract,List.take_of_length_le (by rw [bytes_len];exact Nat.le_refl _),h2]
theorem byte32 (c:UInt8):((c.toNat:Int) == 32)=decide (c=32):=by
 rw [Bool.eq_iff_iff,beq_iff_eq,decide_eq_true_iff]
 constructor
 ·intro h;apply UInt8.toNat_inj.1;show c.toNat=32;omega
 ·intro h;rw [h];rfl
theorem l01Words (s:ByteArray)(w:World)(hmax:s.size<=1048576) :
  Calls Tryz.prog 134 #[.string s] w fun e w'=>∃ u D,e=.returned u/\MadeS w w' u D/\D.map bytes=words (bytes s)/\D.length<=1048577:=by
 have START:MadeS w (w.alloc (.cells #[] 9)) (.slice (some ⟨w.heap.size,0,none⟩) 0 0) [] :=
  ⟨World.ownsRow_lit w #[] 0 (Nat.le_refl _) (Nat.zero_le _) rfl,sl.qA _ _ _⟩
 go_enter Tryz.func134,Tryz.ntmps134;go_wp2;go_loopw [3,4,5] (fun u f i wr=>∃ (k q:Nat) (D:List ByteArray),k<=s.size/\i=.int .i64 k/\f=.int .i64 q/\q<=k/\D.length<=k/\MidS s k q D/\MadeS w wr u D) (fun _ _ i _=>s.size - (intOf i).toNat)
 case atStart=>exact⟨0,0,[],Nat.zero_le _,rfl,rfl,Nat.le_refl _,Nat.le_refl _,⟨rfl,rfl,Nat.le_refl _,Nat.le_refl _⟩,START⟩
 case round =>
  obtain⟨k,q,D,hk,rfl,rfl,hqk,hDk,hm,hmade⟩:=hrel;clear START;by_cases hlt:k<s.size
  ·have hi':(k:Int)<(s.size:Int):=by omega
   have hb:=byte32 s[k];by_cases h32:s[k]=32
   ·rw [decide_eq_true h32] at hb;have M:=midS_blank hm hlt h32;clear hm h32;go_wp2_with (at_builtin;refine appendS hmade (by omega) rfl _ _ rfl rfl rfl ?_);intro v' w1 R;clear hmade;go_wp2;go_roundw
    case rel=>exact⟨k+1,k+1,_,by omega,by go_num,by go_num,Nat.le_refl _,by simp;omega,M,R⟩
    case measure=>simp [intOf];omega
   ·rw [decide_eq_false h32] at hb;have M:=midS_other hm hlt h32;clear hm h32;go_wp2;go_roundw
    case rel=>exact⟨k+1,q,D,by omega,by go_num,rfl,by omega,by omega,M,hmade⟩
    case measure=>simp [intOf];omega
  ·have hi':¬ (k:Int)<(s.size:Int):=by omega
   have E:=midS_end hm hlt;have hkk:k<=1048576:=by omega
   clear hm;go_wp2_with (at_builtin;refine appendS hmade (by omega) rfl _ _ rfl rfl rfl ?_);intro v' w1 R;clear hmade;go_wp2;go_ret;exact⟨_,_,rfl,R,E.1,by have:=E.2;omega⟩
end rd
namespace mn
theorem own_mono {w:World}{base base':Nat}{e:TypeId}{v:Value}{n:Nat}{xs:List Value}(h:w.ownsRow base e 1 v n xs)(hb:base'<=base):w.ownsRow base' e 1 v n xs:=by
 obtain⟨h1,h2⟩:=h;refine⟨h1,?_⟩;rcases h2 with h2 | ⟨g,cap,cur,e1,hg,r⟩
 ·exact .inl h2
 ·exact .inr ⟨g,cap,cur,e1,Nat.le_trans hb hg,r⟩
theorem made_trans {w w1 w2:World}{u:Value}{M:List Int}(h:Made w1 w2 u M)(g:w.grownBy w1 none):Made w w2 u M :=
 ⟨own_mono h.1 g.size,grown_trans g h.2⟩
theorem made_nil (w:World):Made w (w.alloc (.cells #[] 3)) (.slice (some ⟨w.heap.size,0,none⟩) 0 0) [] :=
 ⟨World.ownsRow_lit w #[] 0 (Nat.le_refl _) (Nat.zero_le _) rfl,sl.qA _ _ _⟩
theorem okAll_len {L:List Int}(h:okAll L=true):L.length<=48:=by
 unfold okAll at h;rw [Bool.and_eq_true,decide_eq_true_iff] at h;exact h.2
end mn
namespace rd
open lits (okB_yes)
open mn (made_nil made_trans)
open sl (of_below below_of)
structure Env (w:World):Prop where
 pow:Pow w
 size:10<w.heap.size/\9<w.heap.size/\7<w.heap.size
 synt : ∃ tp p, w.var? Tryz.prog "strconv.ErrSyntax" = some #[.iface tp p]
 rang : ∃ tp p, w.var? Tryz.prog "strconv.ErrRange" = some #[.iface tp p]
 most:∃ m,w.cell? ⟨7,0,none⟩=some (.int .i64 m)
theorem gSynt : Tryz.prog.globalNamed "strconv.ErrSyntax" = some 9 := by kernel_rfl
theorem gRang : Tryz.prog.globalNamed "strconv.ErrRange" = some 10 := by kernel_rfl
theorem Env.below {w w':World}(h:Env w)(b:Below w.heap.size w w'):Env w':=by
 have hz:=h.size;have hbz:=b.size;refine⟨h.pow.below b,⟨by omega,by omega,by omega⟩,?_,?_,?_⟩
 ·obtain⟨tp,p,hv⟩:=h.synt;exact⟨tp,p,var?_below b gSynt (by omega) hv⟩
 ·obtain⟨tp,p,hv⟩:=h.rang;exact⟨tp,p,var?_below b gRang (by omega) hv⟩
 ·obtain⟨m,hm⟩:=h.most;exact⟨m,(b.cell (p:=⟨7,0,none⟩) (by show 7<w.heap.size;omega)).trans hm⟩
theorem Env.kept {w w':World}(h:Env w)(g:w.grownBy w' none):Env w':=h.below (below_of g)
theorem grown_bytes (w:World)(e:TypeId)(t:ByteArray):w.grownBy (Lib.bytesWorld w e t) none:=of_below (Joins.below_bytesWorld w.heap.size w e t (Nat.le_refl _))
theorem atoiOk (s:ByteArray)(v:Int)(w:World)(hs:s.size<=1048576)(h:Lib.atoiAll (bytes s)=.ok v) :
  Calls Tryz.prog 196 #[.string s] w fun e w'=>e=.returned (.tuple #[.int .i64 v,.nilIface])/\w.grownBy w' none:=by
 refine (Tryz.strconv_Atoi_ok s (by omega) v h w).mono ?_;rintro e w' ⟨rfl,hw⟩;refine⟨rfl,?_⟩;rcases hw with rfl | ⟨t,rfl⟩
 ·exact grown_refl _
 ·exact grown_bytes w _ t
theorem atoiBad (s:ByteArray)(w:World)(hE:Env w)(hs:s.size<=1048576)(h:∀ v,Lib.atoiAll (bytes s)≠.ok v) :
  Calls Tryz.prog 196 #[.string s] w fun e w'=>∃ (n:Int) (N:Nat),e=.returned (.tuple #[.int .i64 n,.iface 259 (.pointer (some ⟨N,0,none⟩))])/\w.grownBy w' none:=by
 obtain⟨tp,p,hv⟩:=hE.synt;obtain⟨tq,q,hq⟩:=hE.rang;cases hx:Lib.atoiAll s.data.toList
 ·exact absurd hx (h _)
 ·exact Calls.mono (Any.strconv_Atoi_syntax_var Tryz.laysC172 s (by omega) hx tp p w hv) (fun e w' ⟨N,he,_,_,hb⟩=>⟨_,N,he,of_below hb⟩)
 ·exact Calls.mono (Any.strconv_Atoi_range_var Tryz.laysC172 s (by omega) hx tq q w hq) (fun e w' ⟨N,he,_,_,hb⟩=>⟨_,N,he,of_below hb⟩)
theorem lit_bad {s:List UInt8}(h:∀ v,Lib.atoiAll s≠.ok v):lit s=none:=by
 unfold lit
 split
 ·exact absurd ‹_› (h _)
 ·rfl
theorem lit_ok {s:List UInt8}{v:Int}(h:Lib.atoiAll s=.ok v):lit s=if okB v && decide (Lib.itoa v=s) then some v else none:=by
 unfold lit;rw [h]
theorem readLit (s:ByteArray)(w:World)(hE:Env w)(hs:s.size<=1048576) :
  Calls Tryz.prog 187 #[.string s] w fun e w'=>e=.returned (.tuple #[.int .i8 ((lit (bytes s)).getD 0),.bool (lit (bytes s)).isSome])/\w.grownBy w' none:=by
 by_cases hok:∃ v,Lib.atoiAll (bytes s)=.ok v
 ·obtain⟨v,hv⟩:=hok;have C1:=qH (atoiOk s v w hs hv);have hl:=lit_ok hv;clear hv;cases hlit:okB v
  ·rw [hlit] at hl;have E:Hid (lit (bytes s)=none):=hl;have C2:=qH (fun w=>lits.litOf_no v w (fun h=>by rw [okB_yes h] at hlit;cases hlit));clear hl hlit hE;go_enter Tryz.func187,Tryz.ntmps187;go_wp2_with fail;refine (qU C1).mono ?_;rintro e w1 ⟨rfl,g1⟩;have G1:=qH g1;clear g1;go_wp2_with fail;refine (qU C2 w1).mono ?_;rintro e w2 ⟨rfl,hw⟩;have hw':=hw.symm;clear hw;subst hw';go_wp2_with fail;go_ret2;exact⟨by rw [qU E];rfl,qU G1⟩
  ·rw [hlit] at hl;have a:=okB_iff.1 hlit;have C2:=qH (fun w=>lits.litOf_yes v w a);have C3:=qH (fun w h=>txt.litText v w a.2 h);obtain⟨_,v0,v1⟩:=a;by_cases hi:Lib.itoa v=bytes s
   ·have E:Hid (lit (bytes s)=some v):=by rw [decide_eq_true hi] at hl;exact hl
    have hq:(Lib.itoa v == s.toList)=true:=by rw [toList_bytes,hi];simp
    have HE:=qH hE;clear hl hlit hE hi;generalize Lib.itoa v=q at *;go_enter Tryz.func187,Tryz.ntmps187;go_wp2_with fail;refine (qU C1).mono ?_;rintro e w1 ⟨rfl,g1⟩;have G1:=qH g1;clear g1;go_wp2_with fail;refine (qU C2 w1).mono ?_;rintro e w2 ⟨rfl,hw⟩;have hw':=hw.symm;clear hw;subst hw';go_wp2_with fail;refine (qU C3 w1 ((qU HE).kept (qU G1)).pow).mono ?_;rintro e w3 ⟨rfl,g3⟩;have G3:=qH (qT (qU G1) g3);clear g3;unfold str;go_wp2_with fail;go_ret2;exact⟨by rw [qU E];rfl,qU G3⟩
   ·have E:Hid (lit (bytes s)=none):=by rw [decide_eq_false hi] at hl;exact hl
    have hq:(Lib.itoa v == s.toList)=false:=by rw [toList_bytes];simpa using hi
    have HE:=qH hE;clear hl hlit hE hi;generalize Lib.itoa v=q at *;go_enter Tryz.func187,Tryz.ntmps187;go_wp2_with fail;refine (qU C1).mono ?_;rintro e w1 ⟨rfl,g1⟩;have G1:=qH g1;clear g1;go_wp2_with fail;refine (qU C2 w1).mono ?_;rintro e w2 ⟨rfl,hw⟩;have hw':=hw.symm;clear hw;subst hw';go_wp2_with fail;refine (qU C3 w1 ((qU HE).kept (qU G1)).pow).mono ?_;rintro e w3 ⟨rfl,g3⟩;have G3:=qH (qT (qU G1) g3);clear g3;unfold str;go_wp2_with fail;go_ret2;exact⟨by rw [qU E];rfl,qU G3⟩
 ·have hno:∀ v,Lib.atoiAll (bytes s)≠.ok v:=fun v h=>hok ⟨v,h⟩;have C1:=qH (atoiBad s w hE hs hno);have E:=qH (lit_bad hno);clear hno hok hE;go_enter Tryz.func187,Tryz.ntmps187;go_wp2_with fail;refine (qU C1).mono ?_;rintro e w1 ⟨n,N,rfl,g1⟩;have G1:=qH g1;clear g1;go_wp2_with fail;go_ret2;exact⟨by rw [qU E];rfl,qU G1⟩
def strLen:Value->Nat
 | .string t=>t.size
 | _=>0
theorem clause_end {n:Nat}{s:List UInt8}(h:s=[48]):clause n s=some []:=by
 cases n <;> (unfold clause;rw [if_pos h])
theorem clause_zero {s:List UInt8}(h:¬ s=[48]):clause 0 s=none:=by unfold clause;rw [if_neg h]
theorem clause_uncut {n:Nat}{s:List UInt8}(h:¬ s=[48])(hc:(cutW s).2.2=false):clause n s=none:=by
 cases n with
 | zero=>exact clause_zero h
 | succ n=>unfold clause;rw [if_neg h,hc];rfl
theorem clause_nolit {n:Nat}{s:List UInt8}(h:¬ s=[48])(hl:lit (cutW s).1=none):clause n s=none:=by
 cases n with
 | zero=>exact clause_zero h
 | succ n=>unfold clause;rw [if_neg h,hl];simp
theorem clause_more {n:Nat}{s:List UInt8}{x:Int}(h:¬ s=[48])(hc:(cutW s).2.2=true)(hl:lit (cutW s).1=some x):clause (n+1) s=(clause n (cutW s).2.1).map (x::·):=by
 conv=>lhs;unfold clause
 rw [if_neg h,hc,hl];rfl
def LeftC (s t:List UInt8)(M:List Int):Prop:=read s=(clause (48 - M.length) t).map (M ++ ·)
theorem leftC_start (s:List UInt8):LeftC s s []:=by
 unfold LeftC read;cases clause 48 s <;> rfl
theorem leftC_end {s t:List UInt8}{M:List Int}(h:LeftC s t M)(ht:t=[48]):readL s=M/\readB s=true:=by
 unfold LeftC at h;rw [clause_end ht] at h;unfold readL readB;rw [h];simp
theorem leftC_none {s t:List UInt8}{M:List Int}(h:LeftC s t M)(hn:clause (48 - M.length) t=none):readL s=[]/\readB s=false:=by
 unfold LeftC at h;rw [hn] at h;unfold readL readB;rw [h];exact⟨rfl,rfl⟩
theorem leftC_more {s t:List UInt8}{M:List Int}{x:Int}(h:LeftC s t M)(hM:M.length<48)(h0:¬ t=[48])(hc:(cutW t).2.2=true)(hl:lit (cutW t).1=some x):LeftC s (cutW t).2.1 (M++[x]):=by
 unfold LeftC at *;rw [h,show 48 - M.length=(48 - (M++[x]).length)+1 from by simp;omega,clause_more h0 hc hl,Option.map_map];congr 1
 funext l
 simp
theorem cut_len (s:List UInt8):(cutW s).1.length<=s.length:=by
 rcases cut_spec s with ⟨b,t,e,hb,hi⟩ | ⟨_,hi⟩
 ·rw [e,cut_word t hb];simp
 ·unfold cutW Lib.cut;rw [hi];simp
theorem is48 (t:ByteArray):(t.toList == [48])=decide (bytes t=[48]):=by
 rw [Bool.eq_iff_iff,beq_iff_eq,decide_eq_true_iff,toList_bytes]
theorem bytes_mk (l:List UInt8):bytes ⟨l.toArray⟩=l:=rfl
theorem size_mk (l:List UInt8):(⟨l.toArray⟩:ByteArray).size=l.length:=by rw [←bytes_len,bytes_mk]
theorem cutC (t:ByteArray)(w:World)(hE:Env w)(ht:t.size<=1048576)(wd rs:List UInt8)(fd:Bool)(hc:cutW (bytes t)=(wd,rs,fd)) :
  Calls Tryz.prog 160 #[.string t,.string ⟨#[32]⟩] w fun e w'=>e=.returned (.tuple #[.string ⟨wd.toArray⟩,.string ⟨rs.toArray⟩,.bool fd])/\w.grownBy w' none:=by
 obtain⟨m,hm⟩:=hE.most;refine (Tryz.strings_Cut t ⟨#[32]⟩ m w (by omega) hm).mono ?_;rintro e w' ⟨rfl,n,rfl⟩;have e1:Lib.cut t.data.toList (⟨#[32]⟩:ByteArray).data.toList=(wd,rs,fd):=hc;rw [e1];exact⟨rfl,sl.grown_drewN w n⟩
theorem implReadClause (s:ByteArray)(w:World)(hE:Env w)(hs:s.size<=1048576) :
  Calls Tryz.prog 157 #[.string s] w fun e w'=>∃ u,e=.returned (.tuple #[u,.bool (readB (bytes s))])/\Made w w' u (readL (bytes s)):=by
 have HE:=qH hE;clear hE;have START:=made_nil w;go_enter Tryz.func157,Tryz.ntmps157;go_wp2;go_loopw [0,4] (fun sv c wr=>∃ (t:ByteArray) (M:List Int),sv=.string t/\t.size<=s.size/\M.length<=48/\LeftC (bytes s) (bytes t) M/\Made w wr c M) (fun sv _ _=>strLen sv)
 case atStart=>exact⟨s,[],rfl,Nat.le_refl _,Nat.zero_le _,leftC_start _,START⟩
 case round =>
  obtain⟨t,M,rfl,hts,hM,hleft,hmade⟩:=hrel;clear START;obtain⟨a,cap,rfl,_⟩:=sl.Sl.of_own hmade.1;have h48:=is48 t;by_cases h0:bytes t=[48]
  ·rw [decide_eq_true h0] at h48;have E:=leftC_end hleft h0;clear hleft h0;go_wp2;go_ret2;exact⟨_,by rw [E.2];rfl,by rw [E.1];exact hmade⟩
  ·rw [decide_eq_false h0] at h48;obtain⟨wd,rs,fd,hc⟩:∃ wd rs fd,cutW (bytes t)=(wd,rs,fd):=⟨_,_,_,rfl⟩;have CC:=qH (cutC t wr ((qU HE).kept hmade.2) (by omega) wd rs fd hc);have hwd:wd.length<=1048576:=by
    have h1:wd.length<=(bytes t).length:=by
     have:=cut_len (bytes t);rw [hc] at this;exact this
    rw [bytes_len] at h1;omega
   have CL:=qH (fun w1 (g:wr.grownBy w1 none)=>readLit ⟨wd.toArray⟩ w1 (((qU HE).kept hmade.2).kept g) (by rw [size_mk];exact hwd));rw [bytes_mk] at CL;cases hfd:fd
   ·have E:=leftC_none hleft (clause_uncut h0 (by rw [hc,hfd]));subst hfd;obtain⟨lv,hlv⟩:∃ lv,lit wd=lv:=⟨_,rfl⟩;have LT:=qH hlv;clear hlv hleft h0 hc hwd;go_wp2_with fail;refine (qU CC).mono ?_;rintro e w1 ⟨rfl,g1⟩;have G1:=qH g1;clear g1;go_wp2_with fail;refine (qU CL w1 (qU G1)).mono ?_;rintro e w2 ⟨rfl,g2⟩;have G2:=qH (qT hmade.2 (qT (qU G1) g2));clear g2 CC CL;rw [qU LT];go_wp2_with fail;go_ret2;exact⟨_,by rw [E.2];rfl,by rw [E.1];exact made_trans (made_nil _) (qU G2)⟩
   ·subst hfd;cases hlv:lit wd with
    | none =>
     have E:=leftC_none hleft (clause_nolit h0 (by rw [hc];exact hlv));have LT:=qH hlv;clear hlv hleft h0 hc hwd;go_wp2_with fail;refine (qU CC).mono ?_;rintro e w1 ⟨rfl,g1⟩;have G1:=qH g1;clear g1;go_wp2_with fail;refine (qU CL w1 (qU G1)).mono ?_;rintro e w2 ⟨rfl,g2⟩;have G2:=qH (qT hmade.2 (qT (qU G1) g2));clear g2 CC CL;rw [qU LT];go_wp2_with fail;go_ret2;exact⟨_,by rw [E.2];rfl,by rw [E.1];exact made_trans (made_nil _) (qU G2)⟩
    | some x =>
     have hx:=okB_iff.1 (lit_sound hlv).1;obtain⟨_,x0,x1⟩:=hx;by_cases hm48:M.length=48
     ·have E:=leftC_none hleft (by rw [hm48];exact clause_zero h0);have LT:=qH hlv;have hl:(((M.length:Nat):Int) == 48)=true:=by rw [beq_iff_eq];omega
      clear hlv hleft h0 hc hwd;go_wp2_with fail;refine (qU CC).mono ?_;rintro e w1 ⟨rfl,g1⟩;have G1:=qH g1;clear g1;go_wp2_with fail;refine (qU CL w1 (qU G1)).mono ?_;rintro e w2 ⟨rfl,g2⟩;have G2:=qH (qT hmade.2 (qT (qU G1) g2));clear g2 CC CL;rw [qU LT];go_wp2_with fail;go_ret2;exact⟨_,by rw [E.2];rfl,by rw [E.1];exact made_trans (made_nil _) (qU G2)⟩
     ·have L:=leftC_more hleft (by omega) h0 (by rw [hc]) (by rw [hc];exact hlv);have cs:=cut_sound (s:=bytes t) (by rw [hc]);rw [hc] at L cs;have LT:=qH hlv;have HC:=qH cs.2;have hl:(((M.length:Nat):Int) == 48)=false:=by rw [beq_eq_false_iff_ne];omega
      clear hlv hleft h0 hc hwd cs;go_wp2_with fail;refine (qU CC).mono ?_;rintro e w1 ⟨rfl,g1⟩;have G1:=qH g1;clear g1;go_wp2_with fail;refine (qU CL w1 (qU G1)).mono ?_;rintro e w2 ⟨rfl,g2⟩;have g02:=qT (qU G1) g2;have hm2:Made w w2 (.slice a M.length cap) M:=⟨(sl.Own.kept (sl.Own.of hmade.1) g02).1,qT hmade.2 g02⟩;clear g2 g02 G1 CC CL hmade;rw [qU LT];go_wp2_with (at_builtin;refine wo.append1 hm2.2 hm2.1 (by omega) rfl _ _ rfl rfl rfl ?_);intro v' w3 R;clear hm2;go_wp2;go_roundw
      case rel=>exact⟨⟨rs.toArray⟩,M++[x],rfl,by rw [size_mk];have:=qU HC;rw [bytes_len] at this;omega,by simp;omega,L,R⟩
      case measure =>
       show (⟨rs.toArray⟩:ByteArray).size<t.size;rw [size_mk];have:=qU HC;rw [bytes_len] at this;exact this
end rd
namespace res
theorem own_mono {w:World}{base base':Nat}{e:TypeId}{v:Value}{n:Nat}{xs:List Value}(h:w.ownsRow base e 1 v n xs)(hb:base'<=base):w.ownsRow base' e 1 v n xs:=by
 obtain⟨h1,h2⟩:=h;refine⟨h1,?_⟩;rcases h2 with h2 | ⟨g,cap,cur,e1,hg,r⟩
 ·exact .inl h2
 ·exact .inr ⟨g,cap,cur,e1,Nat.le_trans hb hg,r⟩
theorem made_trans {w w1 w2:World}{u:Value}{M:List Int}(h:Made w1 w2 u M)(g:w.grownBy w1 none):Made w w2 u M :=
 ⟨own_mono h.1 g.size,grown_trans g h.2⟩
end res
namespace rd
theorem scan_len (B:Nat)(l:List UInt8)(st:List (List UInt8) × List UInt8)(h1:∀ x∈st.1,x.length<=B)(h2:st.2.length+l.length<=B):(∀ x∈(scan st l).1,x.length<=B)/\(scan st l).2.length<=B:=by
 induction l generalizing st with
 | nil=>exact⟨h1,by show st.2.length<=B;simpa using h2⟩
 | cons c l ih =>
  have e:scan st (c::l)=scan (if c=32 then (st.1++[st.2],[]) else (st.1,st.2++[c])) l:=rfl;rw [e];rw [List.length_cons] at h2
  split
  ·refine ih _ ?_ (by simp;omega);intro x hx;rcases List.mem_append.1 hx with hx | hx
   ·exact h1 x hx
   ·rw [List.mem_singleton] at hx;rw [hx];omega
  ·exact ih _ h1 (by simp;omega)
theorem words_len (l:List UInt8):∀ x∈words l,x.length<=l.length:=by
 have h:=scan_len l.length l ([],[]) (by simp) (by simp);intro x hx;unfold words at hx;rcases List.mem_append.1 hx with hx | hx
 ·exact h.1 x hx
 ·rw [List.mem_singleton] at hx;rw [hx];exact h.2
theorem words_pos (l:List UInt8):1<=(words l).length:=by unfold words;simp
end rd
namespace ln
def cutL (s:List UInt8):List UInt8 × List UInt8 × Bool:=Lib.cut s [10]
theorem index_cons (b:UInt8)(l:List UInt8):Lib.index (b::l) [10]=if b=10 then 0 else if Lib.index l [10] = -1 then -1 else Lib.index l [10]+1:=by
 conv=>lhs;unfold Lib.index
 by_cases h:b=10
 ·rw [if_pos (by simp [h]),if_pos h]
 ·rw [if_neg (by simp;exact fun e=>h e.symm),if_neg h];simp [beq_iff_eq]
theorem cut_spec (s:List UInt8):(∃ a r,s=a++10::r/\(10:UInt8)∉a/\Lib.index s [10]=(a.length:Int))∨((10:UInt8)∉s/\Lib.index s [10] = -1):=by
 induction s with
 | nil=>exact .inr ⟨by simp,by simp [Lib.index]⟩
 | cons b l ih =>
  rw [index_cons];by_cases h:b=10
  ·exact .inl ⟨[],l,by simp [h],by simp,by simp [h]⟩
  ·rw [if_neg h];rcases ih with ⟨a,r,e,ha,hi⟩ | ⟨ha,hi⟩
   ·refine .inl ⟨b::a,r,by simp [e],?_,?_⟩
    ·rw [List.mem_cons,not_or];exact⟨fun e=>h e.symm,ha⟩
    ·rw [hi,if_neg (by omega)];simp
   ·refine .inr ⟨?_,by rw [hi];rfl⟩;rw [List.mem_cons,not_or];exact⟨fun e=>h e.symm,ha⟩
end ln
namespace rd
open mn (made_nil made_trans)
theorem appendB {ops:Array Oper}{rest:List Oper}{o:Oper}{a:Act}{Q:Exit->Act->World->Prop}{w wr:World}{v u:Value}{M:List Int}{y:Int}{bD:Nat}{D:List ByteArray}
  (hm:Made w wr v M) (hD:wr.ownsRow bD 9 1 u D.length (strs D)) (hM:M.length<=4194304) (hgd:o.guard=none) (s x:Operand)
  (ho:o.op=.call { callee:=.builtin .append,args:=#[s,x],argTypes:=#[37,37] }) (hs:a.eval s=v) (hx:a.eval x=.slice (some ⟨wr.heap.size,0,none⟩) 1 1)
  (h:∀ v' w1,Made w w1 v' (M++[y])->w1.ownsRow bD 9 1 u D.length (strs D)->wpList Tryz.prog ops Q rest (a.put o.dst v') w1) :
  wpList Tryz.prog ops Q (o::rest) a (wr.alloc (.cells #[.int .i64 y] 3)):=by
 obtain⟨i0,hi,hz0,hz1,hz2⟩:=info_parts sl.info3;obtain⟨hown,hg⟩:=hm;have hsz:=hg.size;refine wpList_append_own _ hgd s x 37 ho w.heap.size 3 i0 (.int .i64 0) 1 8 Tryz.underlying37 hi hz0 hz1 hz2 rfl (by decide) v M.length (ints M) hs (hown.alloc _) ⟨wr.heap.size,0,none⟩ 1 1 [.int .i64 y] hx rfl ?_ ?_ ?_ ?_ ?_ ?_
 ·intro j u hj
  match j,hj with
  | 0,hj=>simp at hj;subst hj;simp [Addr.add]
 ·intro u hu;simp at hu;subst hu;rfl
 ·unfold maxLen;omega
 ·omega
 ·simp;omega
 ·intro v' w1 hown' hgrow _;exact h v' w1 (wo.own_grow hg hown hown' hgrow) ((hD.alloc _).kept hgrow (apart_types (hown.alloc (.cells #[.int .i64 y] 3)) (hD.alloc _) (by decide)))
def Part (s:List UInt8)(k:Nat)(M:List Int):Prop:=M.length=k/\∀ L,read s=some L->M=L.take k
theorem words_of {s:List UInt8}{L:List Int}(h:read s=some L):words s=L.map Lib.itoa++[[48]]:=by
 have r:=read_sound h;rw [←r.2,txt.text_yes r.1];exact words_body L
theorem word_of {s:List UInt8}{L:List Int}{D:List ByteArray}(h:read s=some L)(hD:D.map bytes=words s):D.length=L.length+1/\∀ k (hk:k<D.length),k+1<D.length->num (bytes D[k])=(L.getD k 0,true):=by
 rw [words_of h] at hD;have hl:D.length=L.length+1:=by
  have:=congrArg List.length hD
  simpa using this
 refine⟨hl,fun k hk hk1=>?_⟩;have hkL:k<L.length:=by omega
 have e:(D.map bytes)[k]?=some (Lib.itoa L[k]):=by
  rw [hD,List.getElem?_append_left (by simpa using hkL)];simp [hkL]
 have e2:bytes D[k]=Lib.itoa L[k]:=by
  rw [List.getElem?_map,List.getElem?_eq_getElem hk] at e;exact Option.some.inj e
 have hok:=(read_sound h).1;unfold okAll at hok;rw [Bool.and_eq_true] at hok;have hx:=okB_iff.1 (List.all_eq_true.1 hok.1 _ (List.getElem_mem hkL));rw [e2,num_itoa (by omega) (by omega),show L.getD k 0=L[k] by simp [hkL]]
theorem part_stop {s:List UInt8}{D:List ByteArray}{k:Nat}(hD:D.map bytes=words s)(hk:k<D.length)(hk1:k+1<D.length)(hb:(num (bytes D[k])).2=false):readL s=[]/\readB s=false:=by
 cases h:read s with
 | none=>unfold readL readB;rw [h];exact⟨rfl,rfl⟩
 | some L =>
  have:=(word_of h hD).2 k hk hk1;rw [this] at hb;cases hb
theorem part_step {s:List UInt8}{D:List ByteArray}{k:Nat}{M:List Int}(hp:Part s k M)(hD:D.map bytes=words s)(hk:k<D.length)(hk1:k+1<D.length):Part s (k+1) (M++[(num (bytes D[k])).1]):=by
 refine⟨by rw [List.length_append,hp.1];rfl,fun L h=>?_⟩;have h1:=word_of h hD;have h2:=h1.2 k hk hk1;have hkL:k<L.length:=by omega
 rw [hp.2 L h,h2,List.take_succ_eq_append_getElem hkL,show L.getD k 0=L[k] by simp [hkL]]
theorem part_long {s:List UInt8}{D:List ByteArray}(hD:D.map bytes=words s)(hl:49<D.length):readL s=[]/\readB s=false:=by
 cases h:read s with
 | none=>unfold readL readB;rw [h];exact⟨rfl,rfl⟩
 | some L =>
  have h1:=(word_of h hD).1;have h2:=mn.okAll_len (read_sound h).1;omega
theorem part_yes {s:List UInt8}{D:List ByteArray}{k:Nat}{M:List Int}(hp:Part s k M)(hD:D.map bytes=words s)(hk:k+1=D.length)(ht:txt.text M=s):readL s=M/\readB s=true:=by
 have hok:okAll M=true:=by
  cases h:okAll M with
  | true=>rfl
  | false =>
   rw [txt.text_no h] at ht;have hw:words s=[[]]:=by rw [←ht];rfl
   rw [hw] at hD;have h1:=congrArg List.length hD;rw [List.length_map] at h1;have h2:M=[]:=List.eq_nil_of_length_eq_zero (by rw [hp.1];simp at h1;omega);rw [h2] at h;cases h
 have r:=read_full hok;rw [ht] at r;unfold readL readB;rw [r];exact⟨rfl,rfl⟩
theorem part_no {s:List UInt8}{D:List ByteArray}{k:Nat}{M:List Int}(hp:Part s k M)(hD:D.map bytes=words s)(hk:k+1=D.length)(ht:¬ txt.text M=s):readL s=[]/\readB s=false:=by
 cases h:read s with
 | none=>unfold readL readB;rw [h];exact⟨rfl,rfl⟩
 | some L =>
  have h1:=(word_of h hD).1;have h2:=hp.2 L h;rw [List.take_of_length_le (by omega)] at h2;rw [h2] at ht;exact absurd (read_sound h).2 ht
theorem specReadClause (s:ByteArray)(w:World)(hs:s.size<=1048576) :
  Calls Tryz.prog 89 #[.string s] w fun e w'=>∃ u,e=.returned (.tuple #[u,.bool (readB (bytes s))])/\Made w w' u (readL (bytes s)):=by
 have START:=made_nil w;have CW:=qH (l01Words s (w.alloc (.cells #[] 3)) hs);go_enter Tryz.func89,Tryz.ntmps89;go_wp2_with fail;refine (qU CW).mono ?_;rintro e w1 ⟨u,D,rfl,hmD,hD,hDl⟩;clear CW;have hD1:1<=D.length:=by
  have:=words_pos (bytes s);rw [←hD,List.length_map] at this;exact this
 have hm1:Made w w1 (.slice (some ⟨w.heap.size,0,none⟩) 0 0) []:=⟨(START.1).kept hmD.2 (.inr nofun),qT START.2 hmD.2⟩;obtain⟨g,cap,rfl⟩:∃ g cap,u=.slice (some ⟨g,0,none⟩) D.length cap:=by
  cases hmD.1.2 with
  | inl h=>exact absurd h.2 (by omega)
  | inr h=>obtain⟨g,cap,cur,hv,_⟩:=h;exact⟨g,cap,hv⟩
 have hoD:=hmD.1;clear START hmD;generalize (w.alloc (.cells #[] 3)).heap.size=bD at hoD;by_cases h49:49<D.length
 ·have E:=part_long hD h49;have hi:(49:Int)<(D.length:Int):=by omega
  clear hD hoD;go_wp2_with fail;go_ret2;exact⟨_,by rw [E.2];rfl,by rw [E.1];exact hm1⟩
 ·have hi:¬ (49:Int)<(D.length:Int):=by omega
  have HD:=qH hD;clear hD;go_wp2_with fail;go_loopw [4,6] (fun c i wr=>∃ (k:Nat) (M:List Int),k+1<=D.length/\i=.int .i64 k/\M.length=k/\Hid (Part (bytes s) k M)/\Made w wr c M/\wr.ownsRow bD 9 1 (.slice (some ⟨g,0,none⟩) D.length cap) D.length (strs D)) (fun _ i _=>D.length - (intOf i).toNat)
  case atStart=>exact⟨0,[],hD1,rfl,rfl,⟨rfl,fun L _=>rfl⟩,hm1,hoD⟩
  case round =>
   obtain⟨k,M,hk,rfl,hMk,hp,hmade,hoDr⟩:=hrel;clear hm1 hoD;by_cases hlt:k+1<D.length
   ·have hkD:k<D.length:=by omega
    have hi':(k:Int)<(D.length:Int) - 1:=by omega
    have hi2:(k:Int)<(D.length:Int):=by omega
    have c1:wr.cell? ⟨g,k,none⟩=some (.string D[k]):=by
     rw [hoDr.cellAt k (by omega)];simp [strs,hkD]
    have hsz:D[k].size<=1048576:=by
     have h1:bytes D[k]∈words (bytes s):=by
      rw [←qU HD];exact List.mem_map_of_mem (List.getElem_mem hkD)
     have h2:=words_len _ _ h1;rw [bytes_len,bytes_len] at h2;omega
    have CN:=l01Num D[k] wr hsz;have ps:=part_stop (qU HD) hkD hlt;have pt:=part_step (qU hp) (qU HD) hkD hlt;clear hsz;generalize D[k]=wd at *;generalize (num (bytes wd)).1=nv at *;cases hb:(num (bytes wd)).2
    ·rw [hb] at CN;have E:=ps hb;have CC:=qH CN;clear ps pt hp hb CN HD;go_wp2_with fail;refine (qU CC).mono ?_;rintro e w2 ⟨rfl,hw⟩;have hw':=hw.symm;clear hw;subst hw';clear CC;go_wp2_with fail;go_ret2;exact⟨_,by rw [E.2];rfl,by rw [E.1];exact made_trans (made_nil _) hmade.2⟩
    ·rw [hb] at CN;have P:=qH pt;have CC:=qH CN;clear ps pt hp hb CN HD;go_wp2_with fail;refine (qU CC).mono ?_;rintro e w2 ⟨rfl,hw⟩;have hw':=hw.symm;clear hw;subst hw';clear CC;go_wp2_with (at_builtin;refine appendB hmade hoDr (by omega) rfl _ _ rfl rfl rfl ?_);intro v' w3 R hoD3;clear hmade hoDr;go_wp2;go_roundw
     case rel=>exact⟨k+1,M++[nv],by omega,by go_num,by rw [List.length_append,hMk];rfl,P,R,hoD3⟩
     case measure=>simp [intOf];omega
   ·have hke:k+1=D.length:=by omega
    have hi':¬ (k:Int)<(D.length:Int) - 1:=by omega
    have CT:=qH (txt.specClauseText _ M wr (by omega) (sl.Sl.of_own hmade.1));by_cases ht:txt.text M=bytes s
    ·have E:=part_yes (qU hp) (qU HD) hke ht;have hq:(txt.text M == s.toList)=true:=by rw [toList_bytes,ht];simp
     clear hp HD ht hke;generalize txt.text M=q at *;unfold str at CT;go_wp2_with fail;refine (qU CT).mono ?_;rintro e w2 ⟨rfl,hw⟩;have hw':=hw.symm;clear hw;subst hw';clear CT;go_wp2_with fail;go_ret2;exact⟨_,by rw [E.2];rfl,by rw [E.1];exact hmade⟩
    ·have E:=part_no (qU hp) (qU HD) hke ht;have hq:(txt.text M == s.toList)=false:=by rw [toList_bytes];simpa using ht
     clear hp HD ht hke;generalize txt.text M=q at *;unfold str at CT;go_wp2_with fail;refine (qU CT).mono ?_;rintro e w2 ⟨rfl,hw⟩;have hw':=hw.symm;clear hw;subst hw';clear CT;go_wp2_with fail;go_ret2;exact⟨_,by rw [E.2];rfl,by rw [E.1];exact made_trans (made_nil _) hmade.2⟩
end rd
namespace qq
open sl (ret_bool)
def varB (P:List Int):Bool:=decide (∀ i,i<P.length->varI (P.getD i 0)=(i:Int)+1)
theorem turn_hit {P:List Int}{i:Nat}(hi:i<P.length)(h:¬ varI (P.getD i 0)=(i:Int)+1):varB P=false:=decide_eq_false fun q=>h (q i hi)
theorem turn_end {P:List Int}{k:Nat}(hk:¬ k<P.length)(h:∀ i,i<k->varI (P.getD i 0)=(i:Int)+1):varB P=true:=decide_eq_true fun i hi=>h i (by omega)
theorem inTurn (v:Value)(P:List Int)(w:World)(h24:P.length<=1048576)(hv:Sl w v P) :
  Calls Tryz.prog 158 #[v] w fun e w'=>e=.returned (.bool (varB P))/\w'=w:=by
 obtain⟨a,cap,rfl,ha⟩:=hv;have HA:=qH ha;clear ha;go_enter Tryz.func158,Tryz.ntmps158;go_wp2;go_loop [7] (fun i=>∃ k:Nat,k<=P.length/\i=.int .i64 k/\Hid (∀ i,i<k->varI (P.getD i 0)=(i:Int)+1)) (fun i=>P.length - (intOf i).toNat)
 case atStart=>exact⟨0,Nat.zero_le _,rfl,fun i hi=>absurd hi (Nat.not_lt_zero _)⟩
 case round =>
  obtain⟨k,hk,rfl,hall⟩:=hrel;by_cases hlt:k<P.length
  ·rcases qU HA with h | ⟨b,off,rfl,hb,hcb⟩
   ·rw [h] at hlt;simp at hlt
   ·have c1:=hcb k hlt;have hi':(k:Int)<(P.length:Int):=by omega
    have th:=turn_hit hlt;have NX:Hid ((varI (P.getD k 0)=(k:Int)+1)->∀ i,i<k+1->varI (P.getD i 0)=(i:Int)+1):=fun h i hi=>by
     by_cases e:i=k
     ·rw [e];exact h
     ·exact qU hall i (by omega)
    generalize P.getD k 0=x at *;have CV:=qH (lits.implLitVar x w);by_cases hx:varI x=(k:Int)+1
    ·have R:=qH (qU NX hx);rw [hx] at CV;have hne:¬ ((k:Int)+1≠(k:Int)+1):=by omega
     clear hcb hall HA th hx NX;go_wp2_with fail;refine (qU CV).mono ?_;rintro e w' ⟨rfl,hw⟩;have hw':=hw.symm;clear hw;subst hw';go_wp2_with fail
     go_round
     case rel=>exact⟨k+1,by omega,by go_num,R⟩
     case measure=>simp [intOf];omega
    ·have R:=qH (th hx);have hne:(varI x != (k:Int)+1)=true:=by simpa using hx
     clear hcb hall HA th NX;generalize varI x=y at *;go_wp2_with fail;refine (qU CV).mono ?_;rintro e w' ⟨rfl,hw⟩;have hw':=hw.symm;clear hw;subst hw';go_wp2_with fail;go_ret;exact⟨ret_bool (qU R).symm,rfl⟩
  ·have hi':¬ (k:Int)<(P.length:Int):=by omega
   have R:=qH (turn_end hlt (qU hall));clear HA hall;go_wp2_with fail;go_ret;exact⟨ret_bool (qU R).symm,rfl⟩
end qq
namespace qm
open as_ (litAt tl)
theorem tl_getD (A:List Int):∀ (k i:Nat),i<A.length->(tl k A).getD i 0=litAt (k+i) (A.getD i 0):=by
 induction A with
 | nil=>intro k i h;exact absurd h (Nat.not_lt_zero _)
 | cons x A ih =>
  intro k i h;cases i with
  | zero=>rfl
  | succ i =>
   have:=ih (k+1) i (by simpa using h);show (tl (k+1) A).getD i 0=litAt (k+(i+1)) (A.getD i 0);rw [this,show k+1+i=k+(i+1) by omega]
def vals (P:List Int):List Int:=P.map fun x=>if 0<x then 1 else 0
theorem vals_len (P:List Int):(vals P).length=P.length:=List.length_map ..
theorem vals_at {P:List Int}{i:Nat}(h:i<P.length):(vals P).getD i 0=if 0<P.getD i 0 then 1 else 0:=by
 simp [vals,h]
structure MS where
 A:List Int
 st:Int
 k:Int
structure OkM (n:Nat) (m:MS):Prop where
 len:m.A.length<=n
 bit:∀ x∈m.A,x=0∨x=1
 k0:0<=m.k
 k1:m.k<=1000000000
 st:m.st=0∨(m.st=1/\m.A.length=n)∨(m.st=2/\m.A=[])
end qm
namespace qm
open sl (own_stored ints_length)
theorem part_skip (L:List Int)(k:Nat)(h:k<L.length)(h0:L.getD k 0=0):sl.part L (k+1)=sl.part L k:=by
 have e:L[k]=0:=by rw [List.getD_eq_getElem?_getD,List.getElem?_eq_getElem h] at h0;exact h0
 unfold sl.part;rw [List.take_succ_eq_append_getElem h,e,show L.length - k=(L.length - (k+1))+1 by omega,List.replicate_succ,List.append_assoc];rfl
theorem valuesOf (v:Value)(P:List Int)(w:World)(hP:P.length<=1048576)(hv:Sl w v P) :
  Calls Tryz.prog 159 #[v] w fun e w'=>∃ u,e=.returned u/\Made w w' u (vals P):=by
 obtain⟨i0,hi,hz0,hz1,hz2⟩:=info_parts sl.info3;obtain⟨a,cap,rfl,ha⟩:=hv;have HA:Hid (∀ wr,w.grownBy wr none->∀ k,k<P.length->∃ b off,a=some ⟨b,off,none⟩/\wr.cell? ⟨b,off+k,none⟩=some (.int .i64 (P.getD k 0))):=by
  intro wr g k hk;rcases ha with h | ⟨b,off,rfl,hb,hc⟩
  ·rw [h] at hk;exact absurd hk (Nat.not_lt_zero _)
  ·exact⟨b,off,rfl,g.cell (hc k hk) nofun⟩
 have hvl:=vals_len P;have Z:Hid (∀ w':World,w'.ownsRow w.heap.size 3 1 (.slice (some ⟨w.heap.size,0,none⟩) P.length P.length) P.length (madeCells #[Value.int .i64 0] P.length).toList->w'.ownsRow w.heap.size 3 1 (.slice (some ⟨w.heap.size,0,none⟩) P.length P.length) P.length (ints (sl.part (vals P) 0))):=by
  intro w' h;have e:(madeCells #[Value.int .i64 0] P.length).toList=ints (sl.part (vals P) 0):=by
   rw [sl.part_zero,toList_madeCells_one,vals_len];simp [ints]
  rw [e] at h;exact h
 have VL:=qH hvl;have VA:=qH (fun k (h:k<P.length)=>vals_at h);clear ha hvl;go_enter Tryz.func159,Tryz.ntmps159;go_wp2_with (first | (at_make;refine wpList_make_full _ rfl _ _ 37 rfl w.heap.size 3 i0 (.int .i64 0) 1 Tryz.underlying37 hi hz0 hz1 _ _ _ _ P.length rfl rfl (by rfl) (by rfl) ?b1 ?b2 ?b3 ?_))
 case b1=>rw [hz2];omega
 case b2=>unfold maxLen;omega
 case b3=>exact Nat.le_refl _
 intro w2 hown hgrow;have O:=qH (qU Z w2 hown);have G:=qH hgrow;clear hown hgrow Z;go_wp2_with fail;go_loopw [11] (fun i wr=>∃ k:Nat,k<=P.length/\i=.int .i64 k/\wr.ownsRow w.heap.size 3 1 (.slice (some ⟨w.heap.size,0,none⟩) P.length P.length) P.length (ints (sl.part (vals P) k))/\w.grownBy wr none) (fun i _=>P.length - (intOf i).toNat)
 case atStart=>exact⟨0,Nat.zero_le _,rfl,qU O,qU G⟩
 case round =>
  obtain⟨k,hk,rfl,hown,hg⟩:=hrel;by_cases hlt:k<P.length
  ·have hl:=qU VL;obtain⟨b,off,rfl,c1⟩:=qU HA wr hg k hlt;have c2:wr.cell? ⟨w.heap.size,k,none⟩=(ints (sl.part (vals P) k))[k]?:=hown.cellAt k (by omega);obtain⟨x,hx⟩:∃ x,(ints (sl.part (vals P) k))[k]?=some x:=⟨_,List.getElem?_eq_getElem (by rw [ints_length,sl.part_length _ _ (by omega)];omega)⟩;rw [hx] at c2;have c3:wr.frozen? ⟨w.heap.size,k,none⟩=false:=hown.frozenAt k;have hi':(k:Int)<(P.length:Int):=by omega
   have hva:=qU VA k hlt;generalize P.getD k 0=y at *;by_cases hy:y > 0
   ·rw [if_pos hy] at hva;have O':=qH (own_stored P.length (show (sl.part (vals P) k).length=P.length by rw [sl.part_length _ _ (by omega)];exact hl) (show (sl.part (vals P) (k+1)).length=P.length by rw [sl.part_length _ _ (by omega)];exact hl) hown k 1 (by rw [←hva];exact sl.part_set (vals P) k (by omega)));have G':Hid (w.grownBy (wr.setCell ⟨w.heap.size,k,none⟩ (.int .i64 1)) none):=⟨hg.os,hg.tape,hg.output,by simpa [World.setCell] using hg.size,fun j hj _=>(Below.heap_setCell _ _ _ _ (by show j≠w.heap.size;omega)).trans (hg.block j hj nofun)⟩;clear hown hg hx O G hva HA VA VL hl
    go_wp2_with fail;go_roundw
    case rel=>exact⟨k+1,by omega,by go_num,qU O',qU G'⟩
    case measure=>simp [intOf];omega
   ·rw [if_neg hy] at hva;rw [←part_skip (vals P) k (by omega) hva] at hown;have O':=qH hown;have G':=qH hg;clear hown hg hx O G hva HA VA VL hl;go_wp2_with fail;go_roundw
    case rel=>exact⟨k+1,by omega,by go_num,qU O',qU G'⟩
    case measure=>simp [intOf];omega
  ·have hk':k=P.length:=by omega
   subst hk';have O':=qH hown;have G':=qH hg;clear hown hg O G HA VA;go_wp2_with fail;go_ret;refine⟨_,rfl,?_,qU G'⟩;have h:=qU O';have e:sl.part (vals P) P.length=vals P:=by
    have:=sl.part_all (vals P);rw [qU VL] at this;exact this
   rw [e] at h;rw [qU VL];exact h
end qm
namespace ra
open rd (Env readL readB read)
open as_ (tl litAt asText)
def bit (x:Int):Int:=if 0<x then 1 else 0
def bitsOf (c:List Int):List Int:=c.map bit
def goodA (c:List Int):Bool:=decide (tl 0 (bitsOf c)=c)
theorem tl_iff (c:List Int):∀ k,tl k (bitsOf c)=c↔∀ i (h:i<c.length),litAt (k+i) (bit c[i])=c[i]:=by
 induction c with
 | nil=>intro k;simp [bitsOf,as_.tl]
 | cons x l ih =>
  intro k;have e:tl k (bitsOf (x::l))=litAt k (bit x)::tl (k+1) (bitsOf l):=rfl;rw [e,List.cons.injEq,ih]
  constructor
  ·rintro⟨h0,h⟩ i hi;cases i with
   | zero=>exact h0
   | succ i =>
    have:=h i (by simpa using hi);rw [show k+1+i=k+(i+1) by omega] at this;exact this
  ·intro h;refine⟨h 0 (by simp),fun i hi=>?_⟩;have:=h (i+1) (by simpa using hi);rw [show k+(i+1)=k+1+i by omega] at this;exact this
theorem lit_iff {x:Int}(h:okB x=true)(i:Nat):litAt i (bit x)=x↔varI x=(i:Int)+1:=by
 have a:=okB_iff.1 h;rw [lits.varI_yes a];unfold as_.litAt bit;by_cases hx:0<x
 ·rw [if_pos hx,if_pos rfl,if_neg (by omega)];omega
 ·rw [if_neg hx,if_neg (by decide),if_pos (by omega)];omega
theorem good_iff {c:List Int}(h:c.all okB=true):goodA c=true↔∀ i,i<c.length->varI (c.getD i 0)=(i:Int)+1:=by
 unfold goodA;rw [decide_eq_true_iff,tl_iff];rw [List.all_eq_true] at h
 constructor
 ·intro g i hi;have:=g i hi;rw [Nat.zero_add] at this;rw [show c.getD i 0=c[i] by simp [hi]];exact (lit_iff (h _ (List.getElem_mem hi)) i).1 this
 ·intro g i hi;have:=g i hi;rw [show c.getD i 0=c[i] by simp [hi]] at this;rw [Nat.zero_add];exact (lit_iff (h _ (List.getElem_mem hi)) i).2 this
theorem good_len {c:List Int}(h:c.all okB=true)(g:goodA c=true):c.length<=24:=by
 have g':=(good_iff h).1 g;by_cases hl:c.length<=24
 ·exact hl
 ·have:=g' 24 (by omega);have b:=tr.varI_bd (c.getD 24 0);omega
theorem bits_all (c:List Int):(bitsOf c).all bitB=true:=by
 rw [List.all_eq_true];intro x hx;obtain⟨y,_,rfl⟩:=List.mem_map.1 hx;unfold tr.bitB bit
 split <;> decide
theorem bits_len (c:List Int):(bitsOf c).length=c.length:=List.length_map ..
theorem tl_ok (A:List Int):∀ k,k+A.length<=24->(tl k A).all okB=true:=by
 induction A with
 | nil=>intro k _;rfl
 | cons x l ih =>
  intro k h;rw [List.length_cons] at h;rw [as_.tl,List.all_cons,ih (k+1) (by omega),Bool.and_true];refine okB_iff.2 ?_;unfold as_.litAt
  split <;> omega
theorem tl_okAll {A:List Int}(h:A.length<=24):okAll (tl 0 A)=true:=by
 unfold cls.okAll;rw [tl_ok A 0 (by omega),as_.tl_len,decide_eq_true (by omega)];rfl
theorem text_iff {s:List UInt8}{c:List Int}(h:read s=some c):asText (bitsOf c)=s↔goodA c=true:=by
 obtain⟨ho,ht⟩:=rd.read_sound h;have hall:c.all okB=true:=by
  unfold cls.okAll at ho;rw [Bool.and_eq_true] at ho;exact ho.1
 constructor
 ·intro e;by_cases hl:c.length<=24
  ·rw [as_.asText_yes (by rw [bits_len];exact hl) (bits_all c)] at e;have:=rd.read_full (tl_okAll (A:=bitsOf c) (by rw [bits_len];exact hl));rw [e,h] at this;unfold goodA;exact decide_eq_true (Option.some.inj this).symm
  ·rw [as_.asText_no (by rw [decide_eq_false (by rw [bits_len];exact hl)];rfl)] at e;rw [←ht,txt.text_yes ho] at e;simp at e
 ·intro g;have hl:=good_len hall g;rw [as_.asText_yes (by rw [bits_len];exact hl) (bits_all c)];unfold goodA at g;rw [of_decide_eq_true g,ht]
def raB (s:List UInt8)(n:Int):Bool:=readB s && decide (((readL s).length:Int)=n) && goodA (readL s)
def raL (s:List UInt8)(n:Int):List Int:=if raB s n then bitsOf (readL s) else []
theorem ra_no {s:List UInt8}{n:Int}(h:raB s n=false):raL s n=[]:=by unfold raL;rw [h];rfl
theorem ra_yes {s:List UInt8}{n:Int}(h:raB s n=true):raL s n=bitsOf (readL s):=by unfold raL;rw [h];rfl
theorem read_some {s:List UInt8}(h:readB s=true):read s=some (readL s):=by
 unfold rd.readB at h;unfold rd.readL;cases e:read s with
 | none=>rw [e] at h;cases h
 | some c=>rfl
theorem readL_ok {s:List UInt8}(h:readB s=true):(readL s).all okB=true:=by
 have:=(rd.read_sound (read_some h)).1;unfold cls.okAll at this;rw [Bool.and_eq_true] at this;exact this.1
theorem bits_step (c:List Int)(k:Nat)(h:k<c.length):bitsOf (c.take (k+1))=bitsOf (c.take k)++[bit (c.getD k 0)]:=by
 rw [List.take_succ_eq_append_getElem h];unfold bitsOf;rw [List.map_append,show c.getD k 0=c[k] by simp [h]];rfl
theorem implReadAssign (s:ByteArray)(n:Int)(w:World)(hE:Env w)(hs:s.size<=1048576) :
  Calls Tryz.prog 119 #[.string s,.int .i64 n] w fun e w'=>∃ u,e=.returned (.tuple #[u,.bool (raB (rd.bytes s) n)])/\Made w w' u (raL (rd.bytes s) n):=by
 have CR:=rd.implReadClause s w hE hs;have hl48:=rd.read_len (rd.bytes s);cases hb:readB (rd.bytes s)
 ·rw [hb] at CR;have C1:=qH CR;have E:=qH (show raB (rd.bytes s) n=false by unfold raB;rw [hb];rfl);clear CR hb;go_enter Tryz.func119,Tryz.ntmps119;go_wp2_with fail;refine (qU C1).mono ?_;rintro e w1 ⟨u1,rfl,m1⟩;obtain⟨a,cap,rfl,_⟩:=Sl.of_own m1.1;have M1:=qH (res.made_trans (app.made_nil w1) m1.2);clear m1 C1;go_wp2_with fail;go_ret2;exact⟨_,by rw [qU E];rfl,by rw [ra_no (qU E)];exact qU M1⟩
 ·rw [hb] at CR;have hok:=readL_ok hb;have gi:=good_iff hok;have eB:raB (rd.bytes s) n=(decide (((readL (rd.bytes s)).length:Int)=n) && goodA (readL (rd.bytes s))):=by unfold raB;rw [hb];rfl
  have eL:=fun h=>ra_yes (s:=rd.bytes s) (n:=n) h;have eN:=fun h=>ra_no (s:=rd.bytes s) (n:=n) h;generalize readL (rd.bytes s)=c at *;generalize raB (rd.bytes s) n=B at *;generalize raL (rd.bytes s) n=R at *;have C1:=qH CR;clear CR hb;by_cases hn:(c.length:Int)=n
  ·subst hn;rw [decide_eq_true rfl,Bool.true_and] at eB;have gv:goodA c=qq.varB c:=by
    rw [Bool.eq_iff_iff,gi];exact decide_eq_true_iff.symm
   rw [gv] at eB;have EB:=qH eB;have EL:=qH eL;have EN:=qH eN;clear eB eL eN gi gv;have hbe:((c.length:Int) != (c.length:Int))=false:=by simp
   go_enter Tryz.func119,Tryz.ntmps119;go_wp2_with fail;refine (qU C1).mono ?_;rintro e w1 ⟨u1,rfl,m1⟩;have hsl:=Sl.of_own m1.1;have CT:=qH (qq.inTurn _ c w1 (by omega) hsl);have CV:=qH (qm.valuesOf _ c w1 (by omega) hsl);obtain⟨a,cap,rfl,ha⟩:=hsl;have G1:=qH m1.2;clear m1 C1 ha;cases hv:qq.varB c
   ·rw [hv] at CT EB;have M2:=qH (res.made_trans (app.made_nil w1) (qU G1));clear hv CV;go_wp2_with fail;refine (qU CT).mono ?_;rintro e w' ⟨rfl,hw⟩;have hw':=hw.symm;clear hw;subst hw';go_wp2_with fail;go_ret2;exact⟨_,by rw [qU EB];rfl,by rw [qU EN (qU EB)];exact qU M2⟩
   ·rw [hv] at CT EB;clear hv;go_wp2_with fail;refine (qU CT).mono ?_;rintro e w' ⟨rfl,hw⟩;have hw':=hw.symm;clear hw;subst hw';go_wp2_with fail;refine (qU CV).mono ?_;rintro e w2 ⟨u2,rfl,m2⟩;have M2:=qH (res.made_trans m2 (qU G1));clear m2 CV CT;go_wp2_with fail;go_ret2;exact⟨_,by rw [qU EB];rfl,by rw [qU EL (qU EB)];exact qU M2⟩
  ·rw [decide_eq_false hn,Bool.false_and] at eB;have EB:=qH eB;have EN:=qH eN;have hbe:((c.length:Int) != n)=true:=by simpa using hn
   clear eB eL eN gi hn;go_enter Tryz.func119,Tryz.ntmps119;go_wp2_with fail;refine (qU C1).mono ?_;rintro e w1 ⟨u1,rfl,m1⟩;obtain⟨a,cap,rfl,_⟩:=Sl.of_own m1.1;have M1:=qH (res.made_trans (app.made_nil w1) m1.2);clear m1 C1;go_wp2_with fail;go_ret2;exact⟨_,by rw [qU EB];rfl,by rw [qU EN (qU EB)];exact qU M1⟩
theorem appendN {ops:Array Oper}{rest:List Oper}{o:Oper}{a:Act}{Q:Exit->Act->World->Prop}{w wr:World}{v vc:Value}{M c:List Int}{y:Int}{lo hi:Nat}
  (hm:Made w wr v M) (oc:Own lo hi wr vc c) (far:∀ q,v.ownBlock=some q->q<lo∨hi<=q) (hhi:hi<=wr.heap.size) (hM:M.length<=4194304) (hgd:o.guard=none) (s x:Operand)
  (ho:o.op=.call { callee:=.builtin .append,args:=#[s,x],argTypes:=#[37,37] }) (hs:a.eval s=v) (hx:a.eval x=.slice (some ⟨wr.heap.size,0,none⟩) 1 1)
  (h:∀ v' w1,Made w w1 v' (M++[y])->Own lo hi w1 vc c->(∀ q,v'.ownBlock=some q->q<lo∨hi<=q)->hi<=w1.heap.size->wpList Tryz.prog ops Q rest (a.put o.dst v') w1) :
  wpList Tryz.prog ops Q (o::rest) a (wr.alloc (.cells #[.int .i64 y] 3)):=by
 obtain⟨i0,hi0,hz0,hz1,hz2⟩:=info_parts sl.info3;have hown:=hm.1;have hg:=hm.2;have hsz:=hg.size;refine wpList_append_lies _ hgd s x 37 ho w.heap.size 3 i0 (.int .i64 0) 1 8 Tryz.underlying37 hi0 hz0 hz1 hz2 rfl (by decide) v M.length (ints M) hs (hown.alloc _) ⟨wr.heap.size,0,none⟩ 1 1 [.int .i64 y] hx rfl ?_ ?_ (by decide) ?_ ?_ ?_ (wr.heap.size+1) (World.size_alloc ..) ?_
 ·intro j u hj
  match j,hj with
  | 0,hj=>simp at hj;subst hj;simp [Addr.add]
 ·intro u hu;simp at hu;subst hu;rfl
 ·unfold maxLen;omega
 ·omega
 ·simp;omega
 ·intro g cap w1 hown' hgrow hor hgl;have s1:=hgrow.size;rw [World.size_alloc] at s1;refine h _ w1 ⟨?_,app.grown_app hg hown hgrow⟩ ⟨?_,oc.2⟩ ?_ (by omega)
  ·rw [List.length_append];have e:ints (M++[y])=ints M++[.int .i64 y]:=by simp [sl.ints]
   rw [e];exact hown'
  ·refine ((oc.1.alloc _).kept hgrow ?_);cases e:vc.ownBlock with
   | none=>exact .inl rfl
   | some q =>
    refine .inr (fun e'=>?_);have h1:=far q e'.symm;have h2:=(oc.1.lt q e).1;have h3:=oc.2 q e;omega
  ·intro q hq;cases hq;show g<lo∨hi<=g;rcases hor with h1 | h1
   ·exact far _ h1
   ·exact .inr (by omega)
theorem specReadAssign (s:ByteArray)(n:Int)(w:World)(hs:s.size<=1048576) :
  Calls Tryz.prog 43 #[.string s,.int .i64 n] w fun e w'=>∃ u,e=.returned (.tuple #[u,.bool (raB (rd.bytes s) n)])/\Made w w' u (raL (rd.bytes s) n):=by
 have CR:=rd.specReadClause s (w.alloc (.cells #[] 3)) hs;have hl48:=rd.read_len (rd.bytes s);have MN:=qH (app.made_nil w);cases hb:readB (rd.bytes s)
 ·rw [hb] at CR;have C1:=qH CR;have E:=qH (show raB (rd.bytes s) n=false by unfold raB;rw [hb];rfl);clear CR hb;go_enter Tryz.func43,Tryz.ntmps43;go_wp2_with fail;refine (qU C1).mono ?_;rintro e w1 ⟨u1,rfl,m1⟩;obtain⟨a,cap,rfl,_⟩:=Sl.of_own m1.1;have M1:Hid (Made w w1 _ []):=⟨(sl.Own.kept (sl.Own.of (qU MN).1) m1.2).1,grown_trans (qU MN).2 m1.2⟩;clear m1 C1 MN;go_wp2_with fail;go_ret2;exact⟨_,by rw [qU E];rfl,by rw [ra_no (qU E)];exact qU M1⟩
 ·rw [hb] at CR;have ti:=text_iff (read_some hb);have eB:raB (rd.bytes s) n=(decide (((readL (rd.bytes s)).length:Int)=n) && goodA (readL (rd.bytes s))):=by unfold raB;rw [hb];rfl
  have eL:=fun h=>ra_yes (s:=rd.bytes s) (n:=n) h;have eN:=fun h=>ra_no (s:=rd.bytes s) (n:=n) h;generalize readL (rd.bytes s)=c at *;generalize raB (rd.bytes s) n=B at *;generalize raL (rd.bytes s) n=R at *;have C1:=qH CR;clear CR hb;by_cases hn:(c.length:Int)=n
  ·subst hn;rw [decide_eq_true rfl,Bool.true_and] at eB;have EB:=qH eB;have EL:=qH eL;have EN:=qH eN;have TI:=qH ti;clear eB eL eN ti;go_enter Tryz.func43,Tryz.ntmps43;go_wp2_with fail;refine (qU C1).mono ?_;rintro e w1 ⟨u1,rfl,m1⟩;have hsl:=Sl.of_own m1.1;have st:Hid (Made w w1 _ []):=⟨(sl.Own.kept (sl.Own.of (qU MN).1) m1.2).1,grown_trans (qU MN).2 m1.2⟩;have OC:=qH (sl.Own.of m1.1);obtain⟨a,cap,rfl,ha⟩:=hsl;clear m1 C1 ha MN;have hbe:((c.length:Int) != (c.length:Int))=false:=by simp
   go_wp2_with fail;go_loopw [6,9] (fun u i wr=>∃ k:Nat,k<=c.length/\i=.int .i64 k/\Hid (Made w wr u (bitsOf (c.take k)))/\Hid (Own (w.heap.size+1) w1.heap.size wr (.slice a c.length cap) c/\(∀ q,u.ownBlock=some q->q<w.heap.size+1∨w1.heap.size<=q)/\w1.heap.size<=wr.heap.size)) (fun _ i _=>c.length - (intOf i).toNat)
   case atStart=>exact⟨0,Nat.zero_le _,rfl,st,by have:=qU OC;rw [World.size_alloc] at this;exact this,(fun q e=>by cases e;exact .inl (Nat.lt_succ_self _)),Nat.le_refl _⟩
   case round =>
    obtain⟨k,hk,rfl,hm,ho⟩:=hrel;clear st OC;by_cases hlt:k<c.length
    ·obtain⟨a',cap',ea,ha⟩:=(qU ho).1.sl;simp only [Value.slice.injEq,true_and] at ea;obtain⟨rfl,rfl⟩:=ea;rcases ha with h | ⟨b,off,rfl,hb,hcb⟩
     ·rw [h] at hlt;simp at hlt
     ·have c1:=hcb k hlt;have hi':(k:Int)<(c.length:Int):=by omega
      have hs':=bits_step c k hlt;have hM:(bitsOf (c.take k)).length<=4194304:=by rw [bits_len,List.length_take];omega
      generalize c.getD k 0=x at *;generalize bitsOf (c.take k)=M at *;clear hcb hb;by_cases hx:0<x
      ·have HS:=qH (show bitsOf (c.take (k+1))=M++[1] by rw [hs'];unfold bit;rw [if_pos hx]);clear hs';go_wp2_with (at_builtin;refine appendN (qU hm) (qU ho).1 (qU ho).2.1 (qU ho).2.2 hM rfl _ _ rfl rfl rfl ?_);intro v' w3 R1 R2 R3 R4;have H1:=qH R1;have H2:=qH (And.intro R2 (And.intro R3 R4));clear R1 R2 R3 R4 hm ho;go_wp2;go_roundw
       case rel=>exact⟨k+1,by omega,by go_num,by rw [qU HS];exact H1,H2⟩
       case measure=>simp [intOf];omega
      ·have HS:=qH (show bitsOf (c.take (k+1))=M++[0] by rw [hs'];unfold bit;rw [if_neg hx]);clear hs';go_wp2_with (at_builtin;refine appendN (qU hm) (qU ho).1 (qU ho).2.1 (qU ho).2.2 hM rfl _ _ rfl rfl rfl ?_);intro v' w3 R1 R2 R3 R4;have H1:=qH R1;have H2:=qH (And.intro R2 (And.intro R3 R4));clear R1 R2 R3 R4 hm ho;go_wp2;go_roundw
       case rel=>exact⟨k+1,by omega,by go_num,by rw [qU HS];exact H1,H2⟩
       case measure=>simp [intOf];omega
    ·have hi':¬ (k:Int)<(c.length:Int):=by omega
     have e:c.take k=c:=List.take_of_length_le (by omega);rw [e] at hm;have CT:=qH (as_.specAssignText _ (bitsOf c) wr (by rw [bits_len];omega) (Sl.of_own (qU hm).1));by_cases ht:asText (bitsOf c)=rd.bytes s
     ·have E2:=qH ((qU EB).trans ((qU TI).1 ht));have hq:(asText (bitsOf c) == s.toList)=true:=by rw [rd.toList_bytes,ht];simp
      clear e ho ht;generalize asText (bitsOf c)=q at *;unfold dec.str at CT;go_wp2_with fail;refine (qU CT).mono ?_;rintro e w2 ⟨rfl,g2⟩;have M2:Hid (Made w w2 _ (bitsOf c)):=⟨(sl.Own.kept (sl.Own.of (qU hm).1) g2).1,grown_trans (qU hm).2 g2⟩;clear CT g2 hm;go_wp2_with fail;go_ret2;exact⟨_,by rw [qU E2];rfl,by rw [qU EL (qU E2)];exact qU M2⟩
     ·have E2:=qH ((qU EB).trans (by
       cases hg:goodA c
       ·rfl
       ·exact absurd ((qU TI).2 hg) ht))
      have hq:(asText (bitsOf c) == s.toList)=false:=by rw [rd.toList_bytes];simpa using ht
      clear e ho ht;generalize asText (bitsOf c)=q at *;unfold dec.str at CT;go_wp2_with fail;refine (qU CT).mono ?_;rintro e w2 ⟨rfl,g2⟩;have M2:=qH (res.made_trans (app.made_nil w2) (qT (qU hm).2 g2));clear CT g2 hm;go_wp2_with fail;go_ret2;exact⟨_,by rw [qU E2];rfl,by rw [qU EN (qU E2)];exact qU M2⟩
  ·rw [decide_eq_false hn,Bool.false_and] at eB;have EB:=qH eB;have EN:=qH eN;have hbe:((c.length:Int) != n)=true:=by simpa using hn
   clear eB eL eN ti hn;go_enter Tryz.func43,Tryz.ntmps43;go_wp2_with fail;refine (qU C1).mono ?_;rintro e w1 ⟨u1,rfl,m1⟩;obtain⟨a,cap,rfl,_⟩:=Sl.of_own m1.1;have M1:Hid (Made w w1 _ []):=⟨(sl.Own.kept (sl.Own.of (qU MN).1) m1.2).1,grown_trans (qU MN).2 m1.2⟩;clear m1 C1 MN;go_wp2_with fail;go_ret2;exact⟨_,by rw [qU EB];rfl,by rw [qU EN (qU EB)];exact qU M1⟩
end ra
namespace ln
open rd (bytes_len bytes_take bytes_extract)
def lscan (st:List (List UInt8) × List UInt8)(l:List UInt8):List (List UInt8) × List UInt8 :=
 l.foldl (fun st c=>if c=10 then (st.1++[st.2],[]) else (st.1,st.2++[c])) st
def linesOf (l:List UInt8):List (List UInt8):=(lscan ([],[]) l).1
theorem lscan_append (st:List (List UInt8) × List UInt8)(a b:List UInt8):lscan st (a++b)=lscan (lscan st a) b:=by simp [lscan]
theorem lscan_plain (st:List (List UInt8) × List UInt8)(a:List UInt8)(h:(10:UInt8)∉a):lscan st a=(st.1,st.2++a):=by
 induction a generalizing st with
 | nil=>simp [lscan]
 | cons c a ih =>
  rw [List.mem_cons,not_or] at h;have e:lscan st (c::a)=lscan (st.1,st.2++[c]) a:=by
   show lscan (if c=10 then _ else _) a=_;rw [if_neg (fun e=>h.1 e.symm)]
  rw [e,ih _ h.2];simp
theorem lscan_front (d:List (List UInt8))(p l:List UInt8):lscan (d,p) l=(d++(lscan ([],p) l).1,(lscan ([],p) l).2):=by
 induction l generalizing d p with
 | nil=>simp [lscan]
 | cons c l ih =>
  by_cases h:c=10
  ·have e:∀ d,lscan (d,p) (c::l)=lscan (d++[p],[]) l:=fun d=>by
    show lscan (if c=10 then _ else _) l=_;rw [if_pos h]
   rw [e,e,ih,List.nil_append,ih [p]];simp
  ·have e:∀ d,lscan (d,p) (c::l)=lscan (d,p++[c]) l:=fun d=>by
    show lscan (if c=10 then _ else _) l=_;rw [if_neg h]
   rw [e,e,ih]
theorem lines_cons {a:List UInt8}(r:List UInt8)(h:(10:UInt8)∉a):linesOf (a++10::r)=a::linesOf r:=by
 unfold linesOf;rw [lscan_append,lscan_plain _ _ h];show (lscan ([]++[[]++a],[]) r).1=_;rw [lscan_front];simp
def MidL (s:ByteArray)(k f:Nat)(D:List ByteArray):Prop:=D.map rd.bytes=(lscan ([],[]) ((rd.bytes s).take k)).1/\((rd.bytes s).take k).drop f=(lscan ([],[]) ((rd.bytes s).take k)).2/\f<=k/\D.length<=k
theorem midL_line {s:ByteArray}{k f:Nat}{D:List ByteArray}(h:MidL s k f D)(hk:k<s.size)(hb:s[k]=10):MidL s (k+1) (k+1) (D++[s.extract f k]):=by
 obtain⟨h1,h2,h3,h4⟩:=h;have e:lscan ([],[]) ((rd.bytes s).take (k+1))=((lscan ([],[]) ((rd.bytes s).take k)).1++[(lscan ([],[]) ((rd.bytes s).take k)).2],[]):=by
  rw [bytes_take s k hk,lscan_append,hb];rfl
 refine⟨?_,?_,Nat.le_refl _,by simp;omega⟩
 ·rw [e,List.map_append,h1,List.map_cons,List.map_nil,bytes_extract,h2]
 ·rw [e];exact List.drop_eq_nil_of_le (by rw [List.length_take];omega)
theorem midL_other {s:ByteArray}{k f:Nat}{D:List ByteArray}(h:MidL s k f D)(hk:k<s.size)(hb:¬ s[k]=10):MidL s (k+1) f D:=by
 obtain⟨h1,h2,h3,h4⟩:=h;have e:lscan ([],[]) ((rd.bytes s).take (k+1))=((lscan ([],[]) ((rd.bytes s).take k)).1,(lscan ([],[]) ((rd.bytes s).take k)).2++[s[k]]):=by
  rw [bytes_take s k hk,lscan_append];show (if s[k]=10 then _ else _)=_;rw [if_neg hb]
 refine⟨by rw [e];exact h1,?_,by omega,by omega⟩;rw [e,bytes_take s k hk,List.drop_append_of_le_length (by rw [List.length_take,bytes_len];omega),h2]
theorem midL_end {s:ByteArray}{k f:Nat}{D:List ByteArray}(h:MidL s k f D)(hk:¬ k<s.size):D.map rd.bytes=linesOf (rd.bytes s):=by
 obtain⟨h1,_⟩:=h;rw [List.take_of_length_le (by rw [bytes_len];omega)] at h1;exact h1
structure Ans where
 n:Int
 cs:List (List Int)
 code:Int
 line:Int
end ln
namespace rq
open ln (cutL)
open rd (Env readB readL read read_sound read_full read_len)
open ck (Cl)
theorem itoa_nl (x:Int):(10:UInt8)∉Lib.itoa x:=by
 unfold Lib.itoa
 split
 ·intro h;rcases List.mem_cons.1 h with h | h
  ·cases h
  ·have:=rd.dec_mem _ _ h;simp at this
 ·intro h;have:=rd.dec_mem _ _ h;simp at this
theorem text_nl (L:List Int):(10:UInt8)∉text L:=by
 cases h:okAll L with
 | false=>rw [txt.text_no h];simp
 | true =>
  unfold txt.text;rw [h];show (10:UInt8)∉txt.body L++[48];rw [List.mem_append,not_or];refine⟨?_,by decide⟩
  induction L with
  | nil=>simp [txt.body]
  | cons x l ih =>
   rw [rd.body_cons];rw [List.mem_append,List.mem_cons,not_or,not_or];refine⟨itoa_nl x,by decide,ih ?_⟩;unfold cls.okAll at h ⊢;simp only [Bool.and_eq_true,decide_eq_true_iff,List.all_cons,List.length_cons] at h ⊢;exact⟨h.1.2,by omega⟩
theorem lines_cons' (c:List Int)(M:List (List Int)):lines (c::M)=text c++10::lines M:=by
 unfold cx.lines;simp
theorem nl_inj {a b r t:List UInt8}(ha:(10:UInt8)∉a)(hb:(10:UInt8)∉b)(h:a++10::r=b++10::t):a=b/\r=t:=by
 induction a generalizing b with
 | nil =>
  cases b with
  | nil=>simp at h;exact⟨rfl,h⟩
  | cons y b =>
   simp at h;rw [List.mem_cons,not_or] at hb;exact absurd h.1 hb.1
 | cons x a ih =>
  rw [List.mem_cons,not_or] at ha;cases b with
  | nil =>
   simp at h;exact absurd h.1.symm ha.1
  | cons y b =>
   rw [List.mem_cons,not_or] at hb;simp at h;have:=ih ha.2 hb.2 h.2;exact⟨by rw [h.1,this.1],this.2⟩
theorem text_inj {c d:List Int}(hc:okAll c=true)(hd:okAll d=true)(h:text c=text d):c=d:=by
 have h1:=read_full hc;rw [h,read_full hd] at h1;exact (Option.some.inj h1).symm
theorem lines_pre:∀ {LL M:List (List Int)} {t:List UInt8},LL.all okAll=true->M.all okAll=true->lines M=lines LL++t->∃ M',M=LL++M'/\lines M'=t:=by
 intro LL
 induction LL with
 | nil=>intro M t _ _ h;exact⟨M,rfl,h⟩
 | cons c LL ih =>
  intro M t hL hM h;rw [List.all_cons,Bool.and_eq_true] at hL;rw [lines_cons',List.append_assoc,List.cons_append] at h;cases M with
  | nil =>
   have:lines []=[]:=rfl;rw [this] at h;simp at h
  | cons d M =>
   rw [List.all_cons,Bool.and_eq_true] at hM;rw [lines_cons'] at h;obtain⟨h1,h2⟩:=nl_inj (text_nl d) (text_nl c) h;obtain⟨M',rfl,h3⟩:=ih hL.2 hM.2 h2;rw [text_inj hM.1 hL.1 h1];exact⟨M',rfl,h3⟩
def RP (s:List UInt8)(O:Option (List (List Int))):Prop :=
 (∃ LL,O=some LL/\LL.all okAll=true/\LL.length<=700/\lines LL=s)∨(O=none/\∀ M:List (List Int),M.all okAll=true->M.length<=700->lines M≠s)
theorem RP.one {s:List UInt8}{O P:Option (List (List Int))}(h:RP s O)(k:RP s P):O=P:=by
 rcases h with ⟨A,rfl,a1,a2,a3⟩ | ⟨rfl,a⟩ <;> rcases k with ⟨B,rfl,b1,b2,b3⟩ | ⟨rfl,b⟩
 ·obtain⟨M,e,hM⟩:=lines_pre (t:=[]) a1 b1 (by rw [b3,a3,List.append_nil]);cases M with
  | nil=>rw [e,List.append_nil]
  | cons c M=>rw [lines_cons'] at hM;simp at hM
 ·exact absurd a3 (b A a1 a2)
 ·exact absurd b3 (a B b1 b2)
 ·rfl
theorem cut_yes {a r:List UInt8}(ha:(10:UInt8)∉a):cutL (a++10::r)=(a,r,true):=by
 rcases ln.cut_spec (a++10::r) with ⟨a',r',e,ha',hi⟩ | ⟨h,_⟩
 ·obtain⟨e1,e2⟩:=nl_inj ha ha' e;subst e1 e2;unfold ln.cutL Lib.cut;rw [hi,if_pos (by omega)];simp
 ·exact absurd (by simp) h
theorem cut_len {t wd rs:List UInt8}{fd:Bool}(hc:cutL t=(wd,rs,fd)):wd.length<=t.length:=by
 rcases ln.cut_spec t with ⟨a,r,e,ha,hi⟩ | ⟨hn,hi⟩
 ·rw [e,cut_yes ha] at hc;cases hc;rw [e];simp
 ·unfold ln.cutL Lib.cut at hc;rw [hi] at hc;simp at hc;rw [hc.1];exact Nat.le_refl _
structure Lft (s t:List UInt8) (LL:List (List Int)):Prop where
 eq:s=lines LL++t
 ok:LL.all okAll=true
 le:LL.length<=700
theorem Lft.none_ {s t:List UInt8}{LL:List (List Int)}{wd rs:List UInt8}{fd:Bool}(h:Lft s t LL)(h0:t≠[])(hc:cutL t=(wd,rs,fd))(hf:fd=false∨readB wd=false∨LL.length=700):RP s none:=by
 refine .inr ⟨rfl,fun M m1 m2 m3=>?_⟩;obtain⟨M',rfl,hM⟩:=lines_pre h.ok m1 (m3.trans h.eq);cases M' with
 | nil=>exact h0 hM.symm
 | cons c M' =>
  rw [List.all_append,Bool.and_eq_true,List.all_cons,Bool.and_eq_true] at m1;rw [lines_cons'] at hM;rw [←hM,cut_yes (text_nl c)] at hc;cases hc;rcases hf with q | q | q
  ·cases q
  ·unfold rd.readB at q;rw [read_full m1.2.1] at q;cases q
  ·rw [List.length_append,List.length_cons] at m2;omega
theorem Lft.more {s t:List UInt8}{LL:List (List Int)}{wd rs:List UInt8}(h:Lft s t LL)(hc:cutL t=(wd,rs,true))(hr:readB wd=true)(hl:LL.length≠700):Lft s rs (LL++[readL wd])/\rs.length<t.length/\wd.length<=t.length:=by
 obtain⟨L,hL⟩:=Option.isSome_iff_exists.1 (show (read wd).isSome=true from hr);have hs:=read_sound hL;have eL:readL wd=L:=by unfold rd.readL;rw [hL];rfl
 have et:t=wd++10::rs:=by
  rcases ln.cut_spec t with ⟨a,r,e,ha,hi⟩ | ⟨hn,hi⟩
  ·rw [e,cut_yes ha] at hc;cases hc;exact e
  ·unfold ln.cutL Lib.cut at hc;rw [hi] at hc;simp at hc
 refine⟨⟨?_,?_,?_⟩,by rw [et];simp;omega,by rw [et];simp⟩
 ·rw [h.eq,et,eL];unfold cx.lines;simp [hs.2]
 ·rw [List.all_append,h.ok,eL,List.all_cons,hs.1];rfl
 ·rw [List.length_append,List.length_singleton];have:=h.le;omega
theorem Lft.done {s:List UInt8}{LL:List (List Int)}(h:Lft s [] LL):RP s (some LL):=.inl ⟨LL,rfl,h.ok,h.le,by rw [h.eq,List.append_nil]⟩
theorem flat_len {LL:List (List Int)}(h:LL.all okAll=true):LL.flatten.length<=48*LL.length:=by
 induction LL with
 | nil=>exact Nat.zero_le _
 | cons c LL ih =>
  rw [List.all_cons,Bool.and_eq_true] at h;have:=ih h.2;have hc:c.length<=48:=by
   have:=h.1;unfold cls.okAll at this;simp only [Bool.and_eq_true,decide_eq_true_iff] at this;exact this.2
  rw [List.flatten_cons,List.length_append,List.length_cons];omega
theorem cutN (t:ByteArray)(w:World)(hE:Env w)(ht:t.size<=1048576)(wd rs:List UInt8)(fd:Bool)(hc:cutL (rd.bytes t)=(wd,rs,fd)) :
  Calls Tryz.prog 160 #[.string t,.string ⟨#[10]⟩] w fun e w'=>e=.returned (.tuple #[.string ⟨wd.toArray⟩,.string ⟨rs.toArray⟩,.bool fd])/\w.grownBy w' none:=by
 obtain⟨m,hm⟩:=hE.most;refine (Tryz.strings_Cut t ⟨#[10]⟩ m w (by omega) hm).mono ?_;rintro e w' ⟨rfl,n,rfl⟩;have e1:Lib.cut t.data.toList (⟨#[10]⟩:ByteArray).data.toList=(wd,rs,fd):=hc;rw [e1];exact⟨rfl,sl.grown_drewN w n⟩
def ListE (w:World)(O:Option (List (List Int)))(e:Ending)(w':World):Prop:=∃ r,e=.returned (.tuple #[r,.bool O.isSome])/\OwnS w.heap.size w'.heap.size w' r (O.getD [])/\w.grownBy w' none
theorem implReadProof (s:ByteArray)(w:World)(hE:Env w)(hs:s.size<=1048576) :
  Calls Tryz.prog 120 #[.string s] w fun e w'=>∃ O,RP (rd.bytes s) O/\ListE w O e w':=by
 have HE:=qH hE;have START:=qH (Cl.start w);have L0:Hid (Lft (rd.bytes s) (rd.bytes s) []):=⟨rfl,rfl,Nat.zero_le _⟩;clear hE;go_enter Tryz.func120,Tryz.ntmps120;go_wp2_with fail;go_loopw [0] (fun sv wr=>∃ (t:ByteArray) (LL:List (List Int)) (va ve:Value),sv=.string t/\t.size<=1048576/\Hid (Lft (rd.bytes s) (rd.bytes t) LL)/\Hid (Cl 144 [] 0 w wr w.heap.size va ve LL)) (fun sv _=>rd.strLen sv)
 case atStart=>exact⟨s,[],_,_,rfl,hs,L0,START⟩
 case round =>
  obtain⟨t,LL,va,ve,rfl,ht,hl,hc⟩:=hrel;clear START L0;have lf:=qU hl;have hb0:(t.toList == [])=decide (rd.bytes t=[]):=by rw [Bool.eq_iff_iff,beq_iff_eq,decide_eq_true_iff,rd.toList_bytes]
  have hLle:=lf.le;have hfl:=flat_len lf.ok;by_cases h0:rd.bytes t=[]
  ·rw [decide_eq_true h0] at hb0;rw [h0] at lf;have R:=qH lf.done;have CL:=qH (ck.lists w.heap.size wr (by omega) (by omega) (qU hc));have G:=qH (qU hc).g;clear lf h0 hl hc;go_wp2_with fail;refine (qU CL).mono ?_;rintro e w2 ⟨r,rfl,o2,g2⟩;have O2:=qH (sub_own (qU G) o2 g2);clear o2 g2;go_wp2_with fail;go_ret2;exact⟨some LL,qU R,r,rfl,qU O2⟩
  ·rw [decide_eq_false h0] at hb0;obtain⟨wd,rs,fd,hcut⟩:∃ wd rs fd,cutL (rd.bytes t)=(wd,rs,fd):=⟨_,_,_,rfl⟩;have CU:=qH (cutN t wr ((qU HE).kept (qU hc).g) ht wd rs fd hcut);have NO:=qH (fun hf=>lf.none_ h0 hcut hf);have wdl:wd.length<=1048576:=by
    have:=cut_len hcut;rw [rd.bytes_len] at this;omega
   have MO:Hid (fd=true->readB wd=true->LL.length≠700->Lft (rd.bytes s) rs (LL++[readL wd])/\rs.length<(rd.bytes t).length):=fun e h1 h2=>by
    have:=lf.more (e ▸ hcut) h1 h2;exact⟨this.1,this.2.1⟩
   have RC:=qH (fun (w2:World) (g2:wr.grownBy w2 none)=>rd.implReadClause ⟨wd.toArray⟩ w2 ((qU HE).kept (grown_trans (qU hc).g g2)) (by rw [rd.size_mk];exact wdl));rw [rd.bytes_mk] at RC;have FU:=qH (fun (w2:World) (g2:wr.grownBy w2 none)=>ck.full w.heap.size w2 (by omega) ((qU hc).kept g2));have hrl:=read_len wd;clear lf h0 hcut;go_wp2_with fail;refine (qU CU).mono ?_;rintro e w2 ⟨rfl,g2⟩;have G2:=qH g2;have R2:=qH (qU RC w2 g2);clear g2 CU RC;go_wp2_with fail;refine (qU R2).mono ?_;rintro e w3 ⟨u3,rfl,m3⟩;have G3:=qH (qT (qU G2) m3.2);have U3:=qH m3.1;have F3:=qH (qU FU w3 (qU G3))
   have BAD:Hid (RP (rd.bytes s) none->∃ O,RP (rd.bytes s) O/\ListE w O (.returned (.tuple #[.slice (some ⟨w3.heap.size,0,none⟩) 0 0,.bool false])) (w3.alloc (.cells #[] 37))):=fun h=>⟨none,h,_,rfl,sub_own (grown_trans (qU hc).g (qU G3)) (nilS w3) (sl.qA _ _ none)⟩;have PU:=qH (ck.put w.heap.size w3 (by omega) (by omega) ((qU hc).kept (qU G3)) m3.1);clear m3 R2 FU G2;generalize hrb:readB wd=rb at *;cases fd
   ·have R:=qH (qU BAD (qU NO (.inl rfl)));go_wp2_with fail;go_ret2;exact qU R
   ·cases rb
    ·have R:=qH (qU BAD (qU NO (.inr (.inl rfl))));go_wp2_with fail;go_ret2;exact qU R
    ·by_cases h7:LL.length=700
     ·rw [decide_eq_true h7] at F3;have R:=qH (qU BAD (qU NO (.inr (.inr h7))));go_wp2_with fail;refine (qU F3).mono ?_;rintro e w4 ⟨rfl,hw⟩;have hw':=hw.symm;clear hw;subst hw';go_wp2_with fail;go_ret2;exact qU R
     ·rw [decide_eq_false h7] at F3;obtain⟨n1,n2⟩:=qU MO rfl rfl h7;have N1:=qH n1;have N2:=qH n2;clear n1 n2 BAD NO MO;go_wp2_with fail;refine (qU F3).mono ?_;rintro e w4 ⟨rfl,hw⟩;have hw':=hw.symm;clear hw;subst hw';go_wp2_with fail;refine (qU PU).mono ?_;rintro e w4 ⟨rfl,va',ve',c4,_⟩;have C4:=qH c4;clear c4 PU F3;go_wp2_with fail;go_roundw
      case rel=>exact⟨⟨rs.toArray⟩,_,va',ve',rfl,by rw [rd.size_mk];have:=qU N2;rw [rd.bytes_len] at this;omega,qU N1,qU C4⟩
      case measure =>
       have:=qU N2;rw [rd.bytes_len] at this;show (⟨rs.toArray⟩:ByteArray).size<t.size;rw [rd.size_mk];exact this
end rq
namespace ln
open rd (MadeS appendS)
theorem byte10 (c:UInt8):((c.toNat:Int) == 10)=decide (c=10):=by
 rw [Bool.eq_iff_iff,beq_iff_eq,decide_eq_true_iff]
 constructor
 ·intro h;apply UInt8.toNat_inj.1;show c.toNat=10;omega
 ·intro h;rw [h];rfl
theorem l03Lines (s:ByteArray)(w:World)(hmax:s.size<=1048576) :
  Calls Tryz.prog 92 #[.string s] w fun e w'=>∃ u D,e=.returned u/\MadeS w w' u D/\D.map rd.bytes=linesOf (rd.bytes s)/\D.length<=s.size:=by
 have START:MadeS w (w.alloc (.cells #[] 9)) (.slice (some ⟨w.heap.size,0,none⟩) 0 0) [] :=
  ⟨World.ownsRow_lit w #[] 0 (Nat.le_refl _) (Nat.zero_le _) rfl,sl.qA _ _ _⟩
 go_enter Tryz.func92,Tryz.ntmps92;go_wp2;go_loopw [3,4,5] (fun u f i wr=>∃ (k q:Nat) (D:List ByteArray),k<=s.size/\i=.int .i64 k/\f=.int .i64 q/\q<=k/\D.length<=k/\MidL s k q D/\MadeS w wr u D) (fun _ _ i _=>s.size - (intOf i).toNat)
 case atStart=>exact⟨0,0,[],Nat.zero_le _,rfl,rfl,Nat.le_refl _,Nat.le_refl _,⟨rfl,rfl,Nat.le_refl _,Nat.le_refl _⟩,START⟩
 case round =>
  obtain⟨k,q,D,hk,rfl,rfl,hqk,hDk,hm,hmade⟩:=hrel;clear START;by_cases hlt:k<s.size
  ·have hi':(k:Int)<(s.size:Int):=by omega
   have hb:=byte10 s[k];by_cases h10:s[k]=10
   ·rw [decide_eq_true h10] at hb;have M:=midL_line hm hlt h10;clear hm h10;go_wp2_with (at_builtin;refine appendS hmade (by omega) rfl _ _ rfl rfl rfl ?_);intro v' w1 R;clear hmade;go_wp2;go_roundw
    case rel=>exact⟨k+1,k+1,_,by omega,by go_num,by go_num,Nat.le_refl _,by simp;omega,M,R⟩
    case measure=>simp [intOf];omega
   ·rw [decide_eq_false h10] at hb;have M:=midL_other hm hlt h10;clear hm h10;go_wp2;go_roundw
    case rel=>exact⟨k+1,q,D,by omega,by go_num,rfl,by omega,by omega,M,hmade⟩
    case measure=>simp [intOf];omega
  ·have hi':¬ (k:Int)<(s.size:Int):=by omega
   have E:=midL_end hm hlt;have hkk:D.length<=s.size:=by omega
   clear hm;go_wp2;go_ret;exact⟨_,rfl,D,hmade,E,hkk⟩
end ln
namespace rq
open ln (linesOf lines_cons)
open rd (readB readL read read_sound read_full)
theorem lines_of (M:List (List Int)):linesOf (lines M)=M.map text:=by
 induction M with
 | nil=>rfl
 | cons c M ih=>rw [lines_cons',lines_cons _ (text_nl c),ih];rfl
structure Sf (s:List UInt8) (k:Nat) (M:List (List Int)):Prop where
 eq:M.map text=(linesOf s).take k
 ok:M.all okAll=true
theorem Sf.more {s l:List UInt8}{k:Nat}{M:List (List Int)}(h:Sf s k M)(hl:(linesOf s)[k]?=some l)(hr:readB l=true):Sf s (k+1) (M++[readL l]):=by
 obtain⟨L,hL⟩:=Option.isSome_iff_exists.1 (show (read l).isSome=true from hr);have hs:=read_sound hL;have eL:readL l=L:=by unfold rd.readL;rw [hL];rfl
 refine⟨?_,?_⟩
 ·rw [List.take_add_one,hl,List.map_append,h.eq,eL];simp [hs.2]
 ·rw [List.all_append,h.ok,eL,List.all_cons,hs.1];rfl
theorem Sf.len {s:List UInt8}{k:Nat}{M:List (List Int)}(h:Sf s k M)(hk:k<=(linesOf s).length):M.length=k:=by
 have:=congrArg List.length h.eq;rw [List.length_map,List.length_take] at this;omega
theorem none_long {s:List UInt8}(h:700<(linesOf s).length):RP s none:=by
 refine .inr ⟨rfl,fun M m1 m2 m3=>?_⟩;rw [←m3,lines_of,List.length_map] at h;omega
theorem none_bad {s l:List UInt8}{k:Nat}(hl:(linesOf s)[k]?=some l)(hr:readB l=false):RP s none:=by
 refine .inr ⟨rfl,fun M m1 m2 m3=>?_⟩;rw [←m3,lines_of,List.getElem?_map] at hl;cases hM:M[k]? with
 | none=>rw [hM] at hl;cases hl
 | some c =>
  rw [hM] at hl;cases hl;have hc:=List.all_eq_true.1 m1 c (List.mem_of_getElem? hM);unfold rd.readB at hr;rw [read_full hc] at hr;cases hr
theorem map_text:∀ {A B:List (List Int)},A.all okAll=true->B.all okAll=true->A.map text=B.map text->A=B:=by
 intro A
 induction A with
 | nil=>intro B _ _ h;cases B with
  | nil=>rfl
  | cons=>simp at h
 | cons a A ih =>
  intro B ha hb h;cases B with
  | nil=>simp at h
  | cons b B =>
   rw [List.all_cons,Bool.and_eq_true] at ha hb;rw [List.map_cons,List.map_cons,List.cons.injEq] at h;rw [text_inj ha.1 hb.1 h.1,ih ha.2 hb.2 h.2]
theorem Sf.yes {s:List UInt8}{k:Nat}{M:List (List Int)}(h:Sf s k M)(hk:k=(linesOf s).length)(h7:k<=700)(e:lines M=s):RP s (some M):=.inl ⟨M,rfl,h.ok,by rw [h.len (by omega)];exact h7,e⟩
theorem Sf.no {s:List UInt8}{k:Nat}{M:List (List Int)}(h:Sf s k M)(hk:k=(linesOf s).length)(e:¬ lines M=s):RP s none:=by
 refine .inr ⟨rfl,fun A m1 m2 m3=>e ?_⟩;have:=h.eq;rw [hk,List.take_length,←m3,lines_of] at this;rw [map_text h.ok m1 this];exact m3
theorem tot_ok {M:List (List Int)}(h:M.all okAll=true):css.tot M<=49*M.length:=by
 have:=flat_len h;unfold css.tot;rw [List.length_flatten] at this;omega
def Lns (wr:World)(bD:Nat)(ad:Option Addr)(cap:Nat)(D:List ByteArray):Prop:=wr.ownsRow bD 9 1 (.slice ad D.length cap) D.length (rd.strs D)
theorem Lns.kept {wr w1:World}{bD:Nat}{ad:Option Addr}{cap:Nat}{D:List ByteArray}(h:Lns wr bD ad cap D)(g:wr.grownBy w1 none):Lns w1 bD ad cap D:=World.ownsRow.kept h g (by
 cases (Value.slice ad D.length cap).ownBlock with
 | none=>exact .inl rfl
 | some k=>exact .inr nofun)
theorem ty10:(37:Nat)≠9:=by decide
theorem outer_ne {lo hi bD n:Nat}{w:World}{v u:Value}{LL:List (List Int)}{xs:List Value}(h:OwnS lo hi w v LL)(hD:w.ownsRow bD 9 1 u n xs):u.ownBlock=none∨u.ownBlock≠v.ownBlock:=by
 obtain⟨D,e,ho,_⟩:=h;exact rd.apart_types ho hD ty10
theorem lines_row {wr:World}{bD:Nat}{ad:Option Addr}{cap:Nat}{D:List ByteArray}(h:Lns wr bD ad cap D){k:Nat}(hk:k<D.length):∃ g,ad=some ⟨g,0,none⟩/\wr.cell? ⟨g,k,none⟩=some (.string D[k]):=by
 rcases h.2 with ⟨hv,h0⟩ | ⟨g,cap',cur,hv,_⟩
 ·omega
 ·injection hv with h1 h2 h3;subst h1 h3;refine⟨g,rfl,?_⟩;rw [World.ownsRow.cellAt h k (by omega)];simp [rd.strs,hk]
theorem lscan_len (B:Nat)(l:List UInt8)(st:List (List UInt8) × List UInt8)(h1:∀ x∈st.1,x.length<=B)(h2:st.2.length+l.length<=B):(∀ x∈(ln.lscan st l).1,x.length<=B)/\(ln.lscan st l).2.length<=B:=by
 induction l generalizing st with
 | nil=>exact⟨h1,by show st.2.length<=B;simpa using h2⟩
 | cons c l ih =>
  have e:ln.lscan st (c::l)=ln.lscan (if c=10 then (st.1++[st.2],[]) else (st.1,st.2++[c])) l:=rfl;rw [e];rw [List.length_cons] at h2
  split
  ·refine ih _ ?_ (by simp;omega);intro x hx;rcases List.mem_append.1 hx with hx | hx
   ·exact h1 x hx
   ·rw [List.mem_singleton] at hx;rw [hx];omega
  ·exact ih _ h1 (by simp;omega)
theorem line_size {s:ByteArray}{D:List ByteArray}(hD:D.map rd.bytes=linesOf (rd.bytes s))(hs:s.size<=1048576):∀ x∈D,x.size<=1048576:=by
 intro x hx;have h1:rd.bytes x∈linesOf (rd.bytes s):=by
  rw [←hD];exact List.mem_map_of_mem hx
 have h2:=(lscan_len (rd.bytes s).length (rd.bytes s) ([],[]) (by simp) (by simp)).1 _ h1;rw [rd.bytes_len,rd.bytes_len] at h2;omega
theorem str_ne (M:List (List Int))(s:ByteArray):(lines M == s.toList)=decide (lines M=rd.bytes s):=by
 rw [Bool.eq_iff_iff,beq_iff_eq,decide_eq_true_iff,rd.toList_bytes]
theorem specReadProof (s:ByteArray)(w:World)(hs:s.size<=1048576) :
  Calls Tryz.prog 45 #[.string s] w fun e w'=>∃ O,RP (rd.bytes s) O/\ListE w O e w':=by
 have START:=qH (nilS w);have GA:=qH (sl.qA w (.cells #[] 37) none);have CL:=qH (ln.l03Lines s (w.alloc (.cells #[] 37)) hs);have HS:Hid (∀ D:List ByteArray,D.map rd.bytes=linesOf (rd.bytes s)->∀ x∈D,x.size<=1048576):=qH (fun D hD=>line_size hD (by omega));go_enter Tryz.func45,Tryz.ntmps45;go_wp2_with fail;refine (qU CL).mono ?_;rintro e w1 ⟨u,D,rfl,hmD,hD,hDl⟩;clear CL;have hDb:D.length<=1048576:=by omega
 clear hDl;obtain⟨ad,cap,rfl⟩:∃ a cap,u=.slice a D.length cap:=by
  rcases hmD.1.2 with ⟨rfl,h⟩ | ⟨g,cap,cur,rfl,_⟩
  ·exact⟨none,0,by rw [h]⟩
  ·exact⟨_,cap,rfl⟩
 have hDS:=qU HS D hD;have HL:Hid ((linesOf (rd.bytes s)).length=D.length):=by rw [←hD,List.length_map];exact qH rfl
 have HK:Hid (∀ k (hk:k<D.length),(linesOf (rd.bytes s))[k]?=some (rd.bytes D[k])):=by
  intro k hk;rw [←hD];simp [hk]
 obtain⟨o1,g1⟩:=hmD;have S1:=qH ((qU START).kept g1);have G1:=qH (qT (qU GA) g1);replace S1:=qH ((qU S1).sub (Nat.le_refl _) g1.size);generalize (w.alloc (.cells #[] 37)).heap.size=bD at o1;have L1:Hid (Lns w1 bD ad cap D):=o1;clear o1 g1 hD HS START GA;by_cases h7:700<D.length
 ·have hi:(700:Int)<(D.length:Int):=by omega
  have R:=qH (none_long (s:=rd.bytes s) (by rw [qU HL];exact h7));go_wp2_with fail;go_ret2;exact⟨none,qU R,_,rfl,qU S1,qU G1⟩
 have hi:¬ (700:Int)<(D.length:Int):=by omega
 have SF:Hid (Sf (rd.bytes s) 0 []):=⟨rfl,rfl⟩;go_wp2_with fail;go_loopw [4,6] (fun v i wr=>∃ (k:Nat) (M:List (List Int)),k<=D.length/\i=.int .i64 k/\Hid (Sf (rd.bytes s) k M)/\Hid (OwnS w.heap.size wr.heap.size wr v M)/\Hid (w.grownBy wr none)/\Hid (Lns wr bD ad cap D)) (fun _ i _=>D.length - (intOf i).toNat)
 case atStart=>exact⟨0,[],Nat.zero_le _,rfl,SF,S1,G1,L1⟩
 case round =>
  obtain⟨k,M,hk,rfl,hf,ho,hg,hln⟩:=hrel;clear S1 G1 L1 SF;have hMl:=(qU hf).len (by rw [qU HL];exact hk);have hMle:M.length<=700:=by omega
  clear hMl;by_cases hlt:k<D.length
  ·have hi':(k:Int)<(D.length:Int):=by omega
   obtain⟨g,rfl,c1⟩:=lines_row (qU hln) hlt;have hsz:=hDS D[k] (List.getElem_mem hlt);have CC:=rd.specReadClause D[k] wr hsz;have KK:=qU HK k hlt;have NB:=qH (none_bad KK);have MO:=qH ((qU hf).more KK);clear KK hsz;generalize D[k]=ln at *;generalize readL (rd.bytes ln)=L at *;generalize readB (rd.bytes ln)=b at *;have CQ:=qH CC;clear CC;go_wp2_with fail;refine (qU CQ).mono ?_;rintro e w2 ⟨u2,rfl,m2⟩;have G2:=qH m2.2;have U2:=qH (Own.of m2.1);clear m2 CQ;obtain⟨ua,uc,e3,_⟩:=(qU U2).sl;subst e3;cases b
   ·have R:=qH (And.intro (qU NB rfl) (sub_own (grown_trans (qU hg) (qU G2)) (nilS w2) (sl.qA _ _ none)));go_wp2_with fail;go_ret2;exact⟨none,(qU R).1,_,rfl,(qU R).2⟩
   ·have F2:=qH (qU MO rfl);have O2:=qH ((qU ho).kept (qU G2));have GW:=qH (qT (qU hg) (qU G2));have L2:=qH ((qU hln).kept (qU G2));have s1:=qH (qU hg).size;obtain⟨va,vc,rfl⟩:=(qU ho).len;clear MO NB ho hg hln;go_wp2_with (at_builtin;refine gr.appendR (qU O2) (qU U2) (qU s1) (qU G2).size (by omega) rfl _ _ rfl rfl rfl ?_);intro g2 cap2 w4 o4 gr4;have R:=qH (And.intro o4 (app.grown_appS (lo:=0) (qU GW) (qU O2) gr4));have L4:Hid (Lns w4 bD (some ⟨g,0,none⟩) cap D):=World.ownsRow.kept (Lns.kept (qU L2) (sl.qA w2 (.cells #[.slice ua L.length uc] 37) none)) gr4 (outer_ne ((qU O2).kept (sl.qA w2 (.cells #[.slice ua L.length uc] 37) none)) (Lns.kept (qU L2) (sl.qA w2 (.cells #[.slice ua L.length uc] 37) none)))
    clear o4 gr4 O2 U2 GW G2 s1 L2;go_wp2;go_roundw
    case rel=>exact⟨k+1,M++[L],by omega,by go_num,F2,(qU R).1,(qU R).2,L4⟩
    case measure=>simp [intOf];omega
  ·have hi':¬ (k:Int)<(D.length:Int):=by omega
   have e1:=str_ne M s;have fl:=qU hf;have hk':k=(linesOf (rd.bytes s)).length:=by rw [qU HL];omega
   have CT:=pt.specProofText _ M wr (by have:=tot_ok fl.ok;omega) (qU ho).sls;rw [pt.prf_yes (by omega) fl.ok] at CT;unfold dec.str at CT;have YES:=qH (fl.yes hk' (by omega));have NO:=qH (fl.no hk');have CQ:=qH CT;obtain⟨va,vc,rfl⟩:=(qU ho).len;clear fl CT hk' HL HK hf hln;by_cases h:lines M=rd.bytes s
   ·rw [decide_eq_true h] at e1;have Y:=qH (qU YES h);clear h YES NO;generalize lines M=q at *;go_wp2_with fail;refine (qU CQ).mono ?_;rintro e w2 ⟨rfl,g2⟩;have R:=qH (And.intro (((qU ho).kept g2).sub (Nat.le_refl _) g2.size) (qT (qU hg) g2));clear g2;go_wp2_with fail;go_ret2;exact⟨some M,qU Y,_,rfl,qU R⟩
   ·rw [decide_eq_false h] at e1;have Y:=qH (qU NO h);clear h YES NO;generalize lines M=q at *;go_wp2_with fail;refine (qU CQ).mono ?_;rintro e w2 ⟨rfl,g2⟩;have R:=qH (sub_own (grown_trans (qU hg) g2) (nilS w2) (sl.qA _ _ none));clear g2;go_wp2_with fail;go_ret2;exact⟨none,qU Y,_,rfl,qU R⟩
end rq
end Go.Proofs.YtddmmoehlabkiaaGreatDoor
