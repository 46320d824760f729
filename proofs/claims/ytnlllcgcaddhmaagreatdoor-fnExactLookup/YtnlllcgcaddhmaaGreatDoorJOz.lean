/- Slices of words of 32 bits in memory, and what the small helpers on them (an equality, marks) do; no condition but that a list has at most 2^20 elements. -/
import Derived.Test.YtnlllcgcaddhmaaGreatDoorJXSl
import Derived.Laws.AppendOwnNone
import Derived.Laws.BitsLemmas
import Derived.Test.YtnlllcgcaddhmaaGreatDoorJOt
import Derived.Deep.RegionHeld3
import Derived.Deep.RegionLaw
import Derived.Deep.DeepCutAuto
import Derived.Lib.LaidTab
namespace Go.Proofs.YtnlllcgcaddhmaaGreatDoor.zs
open Go.ChangeShapes Go.WideShapes Go.ChangeAt Go.RowKit
open sl (hide unhide ret_int ret_bool grown_refl grown_trans grown_trans' grown_drewN below_of of_below marks marks_length marks_getD marked marked_length marked_zero marked_all grown_setCell)
set_option linter.unusedVariables false
def ints (L:List Int):List Value:=L.map (Value.int .u32)
theorem ints_length (L:List Int):(ints L).length=L.length:=by simp [ints]
theorem infoW:(Tryz.prog.info? 120).map (fun i=>(i.zero,i.size,i.bytes))=some (some (.int .u32 0),1,4):=by kernel_rfl
theorem own_stored {w:World}{base g cap:Nat}{e:TypeId}{L M:List Int}(n:Nat)(hn:L.length=n)(hm:M.length=n)(h:w.ownsRow base e 1 (.slice (some ⟨g,0,none⟩) n cap) n (ints L))(j:Nat)(x:Int)(hx:(ints L).set j (.int .u32 x)=ints M) :
  (w.setCell ⟨g,j,none⟩ (.int .u32 x)).ownsRow base e 1 (.slice (some ⟨g,0,none⟩) n cap) n (ints M):=by
 rw [←hx]
 exact (h.stored j _).1
def Made (w w1:World)(v:Value)(M:List Int):Prop:=w1.ownsRow w.heap.size 120 1 v M.length (ints M)∧w.grownBy w1 none
theorem made_nil (w:World):Made w (w.alloc (.cells #[] 120)) (.slice (some ⟨w.heap.size,0,none⟩) 0 0) [] :=
 ⟨World.ownsRow_lit w #[] 0 (Nat.le_refl _) (Nat.zero_le _) rfl,World.grownBy_alloc _ _ _⟩
theorem ints_append (L M:List Int):ints (L++M)=ints L++ints M:=by simp [ints]
theorem wpT {o:Oper}{a:Act}{K:Act→World→Prop}{Q:Exit→Act→World→Prop}{w wr:World}{va:Value}{A B:List Int}{ad:Addr}{cap:Nat}
  (hg:w.grownBy wr none) (hA:wr.ownsRow w.heap.size 120 1 va A.length (ints A)) (hB:∀ j,j<B.length→wr.cell? (ad.add j)=some (.int .u32 (B.getD j 0))) (hl:A.length+B.length≤4194304) (s x:Operand)
  (ho:o.op=.call { callee:=.builtin .append,args:=#[s,x],argTypes:=#[183,183] }) (hs:a.eval s=va) (hx:a.eval x=.slice (some ad) B.length cap)
  (h:∀ v' w1,Made w w1 v' (A++B)→wr.grownBy w1 va.ownBlock→K (a.put o.dst v') w1):o.wp Tryz.prog a wr K Q:=by
 obtain⟨i0,hi,hz0,hz1,hz2⟩:=info_parts infoW
 have hsz:=hg.size
 refine wp_append_own _ s x 183 ho w.heap.size 120 i0 (.int .u32 0) 1 4 Tryz.underlying183 hi hz0 hz1 hz2 rfl (by decide) va A.length (ints A) hs hA ad B.length cap (ints B) hx (by rw [ints_length];omega) ?_ ?_ ?_ ?_ ?_ ?_
 ·intro j u hj
  have hjl:j<B.length:=by
   have:=(List.getElem?_eq_some_iff.1 hj).1
   rwa [ints_length] at this
  rw [hB j hjl,←hj]
  simp [ints,hjl]
 ·exact ints_oneCell .u32 B
 ·unfold maxLen
  omega
 ·omega
 ·exact hsz
 ·intro v' w1 hown' hgrow _
  refine h v' w1 ⟨?_,⟨hgrow.os.trans hg.os,hgrow.tape.trans hg.tape,hgrow.output.trans hg.output,Nat.le_trans hsz hgrow.size,fun k hk _=>?_⟩⟩ hgrow
  ·rw [List.length_append,ints_append]
   exact hown'
  ·rw [hgrow.block k (by omega) (fun e=>by have:=(hA.lt k e.symm).1;omega)]
   exact hg.block k hk (fun e=>by cases e)
theorem appendT {ops:Array Oper}{rest:List Oper}{o:Oper}{a:Act}{Q:Exit→Act→World→Prop}{w wr:World}{va:Value}{A B:List Int}{ad:Addr}{n cap:Nat}
  (hg:w.grownBy wr none) (hA:wr.ownsRow w.heap.size 120 1 va A.length (ints A)) (hB:∀ j,j<B.length→wr.cell? (ad.add j)=some (.int .u32 (B.getD j 0))) (hl:A.length+B.length≤4194304) (hn:n=B.length) (hgd:o.guard=none) (s x:Operand)
  (ho:o.op=.call { callee:=.builtin .append,args:=#[s,x],argTypes:=#[183,183] }) (hs:a.eval s=va) (hx:a.eval x=.slice (some ad) n cap)
  (h:∀ v' w1,Made w w1 v' (A++B)→wr.grownBy w1 va.ownBlock→wpList Tryz.prog ops Q rest (a.put o.dst v') w1):wpList Tryz.prog ops Q (o::rest) a wr:=by
 subst hn
 exact wpList_plain hgd fun K hK=>wpT hg hA hB hl s x ho hs hx fun v' w1 m g=>hK _ _ (h v' w1 m g)
theorem one_at (wr:World)(y:Int):∀ j,j < [y].length→(wr.alloc (.cells #[.int .u32 y] 120)).cell? ((⟨wr.heap.size,0,none⟩:Addr).add j)=some (.int .u32 ([y].getD j 0)):=by
 intro j hj
 match j,hj with
 | 0,_=>simp [Addr.add]
end Go.Proofs.YtnlllcgcaddhmaaGreatDoor.zs
namespace Go.Proofs.YtnlllcgcaddhmaaGreatDoor.za
set_option linter.unusedVariables false
def Wd (x:Int):Prop:=0≤x∧x<4294967296
def rotI (x:Int)(n:Nat):Int:=bits .xor .u32 (x / 2 ^ n) (x*2 ^ (32 - n) % 4294967296)
theorem mod_wd (n:Int):Wd (n % 4294967296):=by
 unfold Wd
 omega
theorem or_xor (a n:Nat)(ha:a<2 ^ 32)(h1:1≤n)(h2:n≤31):((a*2 ^ (32 - n)) % 2 ^ 32 ||| a / 2 ^ n)=(a / 2 ^ n ^^^ (a*2 ^ (32 - n)) % 2 ^ 32):=by
 apply Nat.eq_of_testBit_eq
 intro i
 rw [Nat.testBit_or,Nat.testBit_xor,Nat.testBit_mod_two_pow,Nat.testBit_mul_two_pow,Nat.testBit_div_two_pow]
 by_cases h:32 - n≤i
 ·have hz:a.testBit (i+n)=false:=Nat.testBit_lt_two_pow (Nat.lt_of_lt_of_le ha (Nat.pow_le_pow_right (by decide) (by omega)))
  rw [hz]
  simp
 ·simp [h]
theorem rot_or (x:Int)(n:Nat)(hx:Wd x)(h1:1≤n)(h2:n≤31):bits .or .u32 (x*2 ^ (32 - n) % 4294967296) (x / 2 ^ n)=rotI x n:=by
 obtain⟨h3,h4⟩:=hx
 obtain⟨a,rfl⟩:=Int.eq_ofNat_of_zero_le h3
 have ha:a<2 ^ 32:=by omega
 have e1:((a:Int)*2 ^ (32 - n)) % 4294967296=(((a*2 ^ (32 - n)) % 2 ^ 32:Nat):Int):=by
  simp
 have e2:(a:Int) / 2 ^ n=((a / 2 ^ n:Nat):Int):=by simp
 unfold rotI
 rw [e1,e2]
 have hA:(a*2 ^ (32 - n)) % 2 ^ 32<2 ^ 32:=Nat.mod_lt _ (by decide)
 have hB:a / 2 ^ n<2 ^ 32:=Nat.lt_of_le_of_lt (Nat.div_le_self _ _) ha
 have key:=or_xor a n ha h1 h2
 generalize (a*2 ^ (32 - n)) % 2 ^ 32=A at *
 generalize a / 2 ^ n=B at *
 have eb:∀ A:Nat,A<2 ^ 32→A % 2 ^ IntKind.u32.bits=A:=fun A h=>Nat.mod_eq_of_lt h
 simp only [bits,BitVec.ofInt_natCast,BitVec.toNat_or,BitVec.toNat_xor,BitVec.toNat_ofNat,eb A hA,eb B hB,key]
def g4 (a b c d:Int):Int:=a*16777216+b*65536+c*256+d
theorem or_step (x y:Int)(hx0:0≤x)(hx1:x<16777216)(hy0:0≤y)(hy1:y<256):bits .or .u32 (x*256 % 4294967296) y=x*256+y:=by
 rw [show x*256 % 4294967296=x*256 by omega]
 exact bits_join .u32 32 (by decide) (fun n h0 h1=>by rw [IntKind.wrap_u32];omega) 8 (x*256) y (by omega) (by omega) (by omega) hy0 (by omega) (by omega)
end Go.Proofs.YtnlllcgcaddhmaaGreatDoor.za
namespace Go.Proofs.YtnlllcgcaddhmaaGreatDoor.zb
open Go.ChangeShapes Go.WideShapes Go.ChangeAt Go.RowKit
open sl (hide unhide ret_int ret_bool grown_refl grown_trans grown_drewN)
open za (Wd rotI g4)
set_option linter.unusedVariables false
theorem specRot (x:Int)(n:Nat)(w:World)(hx:Wd x)(h1:1≤n)(h2:n≤31) :
  Calls Tryz.prog 174 #[.int .u32 x,.int .u64 n] w fun e w'=>e=.returned (.int .u32 (rotI x n))∧w'=w:=by
 obtain⟨h3,h4⟩:=hx
 have b0:(0:Int)≤(n:Int):=by omega
 have b1:(n:Int)≤32:=by omega
 have b2:(0:Int)≤32 - (n:Int):=by omega
 have b3:(32:Int) - (n:Int)≤32:=by omega
 go_enter Tryz.func174,Tryz.ntmps174
 go_wp2
 go_ret
 exact⟨rfl,rfl⟩
theorem and31 (n:Nat)(h1:1≤n)(h2:n≤31):bits .and .u64 (IntKind.u64.wrap (-(n:Int))) 31=32 - (n:Int):=by
 rw [show IntKind.u64.wrap (-(n:Int))=18446744073709551616 - (n:Int) by simp only [IntKind.wrap,IntKind.bits,IntKind.signed];simp;omega]
 have e:=bits_mask .u64 64 (by decide) (fun n h0 h1=>by simp only [IntKind.wrap,IntKind.bits,IntKind.signed];simp;omega) 5 (by decide) (18446744073709551616 - (n:Int)) (by omega) (by omega)
 rw [show (31:Int)=2 ^ 5 - 1 by decide,e]
 omega
theorem rotate (x:Int)(n:Nat)(w:World)(hx:Wd x)(h1:1≤n)(h2:n≤31) :
  Calls Tryz.prog 207 #[.int .u32 x,.int .i64 (-(n:Int))] w fun e w'=>e=.returned (.int .u32 (rotI x n))∧w'=w:=by
 have R:=hide (za.rot_or x n hx h1 h2)
 obtain⟨h3,h4⟩:=hx
 obtain⟨m,hm⟩:∃ m,m=32 - n:=⟨_,rfl⟩
 have e:bits .and .u64 (IntKind.u64.wrap (-(n:Int))) 31=(m:Int):=by rw [and31 n h1 h2];omega
 have HM:Hid (32 - m=n∧32 - n=m):=⟨by omega,by omega⟩
 have b0:(0:Int)≤(m:Int):=by omega
 have b1:(m:Int)≤32:=by omega
 have b2:(0:Int)≤32 - (m:Int):=by omega
 have b3:(32:Int) - (m:Int)≤32:=by omega
 clear hm h1 h2
 go_enter Tryz.func207,Tryz.ntmps207
 go_wp2
 go_ret
 refine⟨ret_int ?_,rfl⟩
 rw [(unhide HM).1,←unhide R,(unhide HM).2]
theorem rot (x:Int)(n:Nat)(w:World)(hx:Wd x)(h1:1≤n)(h2:n≤31) :
  Calls Tryz.prog 190 #[.int .u32 x,.int .i64 n] w fun e w'=>e=.returned (.int .u32 (rotI x n))∧w'=w:=by
 go_enter Tryz.func190,Tryz.ntmps190
 go_wp2_with (go_at_call 207;refine (rotate x n _ hx h1 h2).mono ?_;rintro e w' ⟨rfl,rfl⟩)
 go_ret
 exact⟨rfl,rfl⟩
def at_ (s:ByteArray)(k:Nat):Int:=((s.data.toList.getD k 0).toNat:Int)
theorem at_bd (s:ByteArray)(k:Nat):0≤at_ s k∧at_ s k<256:=by
 unfold at_
 have:=(s.data.toList.getD k 0).toNat_lt
 omega
theorem at_eq (s:ByteArray)(k:Nat)(h:k<s.size):((s[k].toNat:Nat):Int)=at_ s k:=by
 unfold at_
 have:s.data.toList.getD k 0=s[k]:=by
  rw [List.getD,List.getElem?_eq_getElem (by simpa using h)]
  rfl
 rw [this]
theorem wrap64 {x:Int}(h0 : -9223372036854775808≤x)(h1:x<9223372036854775808):IntKind.i64.wrap x=x:=by
 rw [IntKind.wrap_i64]
 omega
theorem specGet (s:ByteArray)(k:Nat)(w:World)(h:k+4≤s.size)(hs:s.size≤1048576) :
  Calls Tryz.prog 197 #[.string s,.int .i64 k] w fun e w'=>e=.returned (.int .u32 (g4 (at_ s k) (at_ s (k+1)) (at_ s (k+2)) (at_ s (k+3))))∧w.grownBy w' none:=by
 obtain⟨k1,hk1⟩:∃ k1,k1=k+1:=⟨_,rfl⟩
 obtain⟨k2,hk2⟩:∃ k2,k2=k+2:=⟨_,rfl⟩
 obtain⟨k3,hk3⟩:∃ k3,k3=k+3:=⟨_,rfl⟩
 rw [←hk1,←hk2,←hk3]
 have i0:(k:Int)<(s.size:Int):=by omega
 have i1:(k1:Int)<(s.size:Int):=by omega
 have i2:(k2:Int)<(s.size:Int):=by omega
 have i3:(k3:Int)<(s.size:Int):=by omega
 have l0:k<s.size:=by omega
 have l1:k1<s.size:=by omega
 have l2:k2<s.size:=by omega
 have l3:k3<s.size:=by omega
 have e0:=at_eq s k l0
 have e1:=at_eq s k1 l1
 have e2:=at_eq s k2 l2
 have e3:=at_eq s k3 l3
 have d0:=at_bd s k
 have d1:=at_bd s k1
 have d2:=at_bd s k2
 have d3:=at_bd s k3
 have j1:IntKind.i64.wrap ((k:Int)+1)=(k1:Int):=by rw [wrap64 (by omega) (by omega)];omega
 have j2:IntKind.i64.wrap ((k:Int)+2)=(k2:Int):=by rw [wrap64 (by omega) (by omega)];omega
 have j3:IntKind.i64.wrap ((k:Int)+3)=(k3:Int):=by rw [wrap64 (by omega) (by omega)];omega
 generalize at_ s k=x0 at *
 generalize at_ s k1=x1 at *
 generalize at_ s k2=x2 at *
 generalize at_ s k3=x3 at *
 have a0:IntKind.i64.wrap x0=x0:=wrap64 (by omega) (by omega)
 have a1:IntKind.i64.wrap x1=x1:=wrap64 (by omega) (by omega)
 have a2:IntKind.i64.wrap x2=x2:=wrap64 (by omega) (by omega)
 have a3:IntKind.i64.wrap x3=x3:=wrap64 (by omega) (by omega)
 clear hk1 hk2 hk3 h
 go_enter Tryz.func197,Tryz.ntmps197
 go_wp2
 go_quiet (fail)
 go_wp2
 go_ret
 exact⟨rfl,grown_drewN _ _⟩
def rw4 (s:ByteArray)(k:Nat):Int:=match k with
 | 0=>0
 | j+1=>rw4 s j*256+at_ s j
theorem rw4_bd (s:ByteArray):∀ k,0≤rw4 s k∧rw4 s k<256 ^ k
 | 0=>by simp [rw4]
 | j+1=>by
  have h:=rw4_bd s j
  have d:=at_bd s j
  unfold rw4
  rw [Int.pow_succ]
  omega
theorem readWord (s:ByteArray)(w:World)(h:4≤s.size)(hs:s.size≤1048576) :
  Calls Tryz.prog 189 #[.string s] w fun e w'=>e=.returned (.int .u32 (g4 (at_ s 0) (at_ s 1) (at_ s 2) (at_ s 3)))∧w'=w:=by
 go_enter Tryz.func189,Tryz.ntmps189
 go_wp2
 go_loop [3,4,5] (fun q _ i=>∃ k:Nat,k≤4∧i=.int .i64 k∧q=.int .u32 (rw4 s k)) (fun _ _ i=>4 - (intOf i).toNat)
 case atStart=>exact⟨0,by omega,rfl,rfl⟩
 case round =>
  obtain⟨k,hk,rfl,rfl⟩:=hrel
  by_cases hlt:k<4
  ·have i0:(k:Int)<4:=by omega
   have i1:(k:Int)<(s.size:Int):=by omega
   have e0:=at_eq s k (by omega)
   have d0:=at_bd s k
   have hb:=rw4_bd s k
   have hb':rw4 s k<16777216:=by
    rcases (show k=0∨k=1∨k=2∨k=3 by omega) with rfl | rfl | rfl | rfl <;> simp at hb <;> omega
   have HR:Hid (rw4 s (k+1)=rw4 s k*256+at_ s k):=rfl
   have HO:=hide (za.or_step (rw4 s k) (at_ s k) hb.1 hb' d0.1 d0.2)
   generalize at_ s k=x0 at *
   generalize rw4 s k=q at *
   clear hb
   go_wp2
   go_round
   case rel=>exact⟨k+1,by omega,by go_num,by rw [unhide HR,←unhide HO]⟩
   case measure=>simp [intOf];omega
  ·have i0:¬ (k:Int)<4:=by omega
   have HK:Hid (k=4):=by show k=4;omega
   go_wp2
   go_ret
   refine⟨ret_int ?_,rfl⟩
   rw [unhide HK]
   simp only [rw4,g4]
   omega
end Go.Proofs.YtnlllcgcaddhmaaGreatDoor.zb
namespace Go.Proofs.YtnlllcgcaddhmaaGreatDoor.zc
open Go.ChangeShapes Go.WideShapes Go.ChangeAt Go.RowKit
open sl (hide unhide ret_int ret_bool grown_refl grown_trans grown_drewN)
open za (Wd rotI g4)
open zb (at_ at_bd at_eq wrap64)
open zs (ints Made appendT one_at made_nil)
set_option linter.unusedVariables false
def sig0 (x:Int):Int:=bits .xor .u32 (bits .xor .u32 (rotI x 7) (rotI x 18)) (x / 8)
def sig1 (x:Int):Int:=bits .xor .u32 (bits .xor .u32 (rotI x 17) (rotI x 19)) (x / 1024)
def sched (a b c d:Int):Int:=(((a+sig0 b) % 4294967296+c) % 4294967296+sig1 d) % 4294967296
def nxt (s:ByteArray)(M:List Int)(i:Nat):Int :=
 if i<16 then g4 (at_ s (4*i)) (at_ s (4*i+1)) (at_ s (4*i+2)) (at_ s (4*i+3)) else sched (M.getD (i - 16) 0) (M.getD (i - 15) 0) (M.getD (i - 7) 0) (M.getD (i - 2) 0)
def wds (s:ByteArray):Nat→List Int
 | 0=>[]
 | i+1=>wds s i++[nxt s (wds s i) i]
theorem wds_length (s:ByteArray):∀ i,(wds s i).length=i
 | 0=>rfl
 | i+1=>by simp [wds,wds_length s i]
theorem g4_wd {a b c d:Int}(ha:0≤a∧a<256)(hb:0≤b∧b<256)(hc:0≤c∧c<256)(hd:0≤d∧d<256):Wd (g4 a b c d):=by
 unfold za.Wd za.g4
 omega
theorem nxt_wd (s:ByteArray)(M:List Int)(i:Nat):Wd (nxt s M i):=by
 unfold nxt
 split
 ·exact g4_wd (at_bd _ _) (at_bd _ _) (at_bd _ _) (at_bd _ _)
 ·exact za.mod_wd _
theorem wds_wd (s:ByteArray):∀ i,∀ x∈wds s i,Wd x
 | 0=>fun x h=>by cases h
 | i+1=>fun x h=>by
  rw [wds,List.mem_append,List.mem_singleton] at h
  rcases h with h | h
  ·exact wds_wd s i x h
  ·rw [h]
   exact nxt_wd _ _ _
theorem zero_wd:Wd 0:=by unfold za.Wd;omega
theorem getD_wd (s:ByteArray)(i j:Nat):Wd ((wds s i).getD j 0):=by
 by_cases h:j<(wds s i).length
 ·rw [List.getD,List.getElem?_eq_getElem h]
  exact wds_wd s i _ (List.getElem_mem h)
 ·rw [List.getD,List.getElem?_eq_none (by omega)]
  exact zero_wd
theorem form {w wr:World}{v:Value}{M:List Int}(h:Made w wr v M)(h0:1≤M.length):∃ g cap,v=.slice (some ⟨g,0,none⟩) M.length cap:=by
 obtain⟨_,h⟩:=h.1
 rcases h with ⟨_,h0'⟩ | ⟨g,cap,cur,e,_⟩
 ·omega
 ·exact⟨g,cap,e⟩
def wall (s:ByteArray):List Int:=if s.size=64 then wds s 64 else []
set_option maxRecDepth 100000 in
set_option maxHeartbeats 2000000 in
theorem specSumWords (s:ByteArray)(w:World)(hs:s.size≤1048576) :
  Calls Tryz.prog 172 #[.string s] w fun e w'=>∃ u,e=.returned u∧Made w w' u (wall s):=by
 have start:=hide (made_nil w)
 by_cases h64:s.size=64
 ·have hb:((s.size:Int) != 64)=false:=by simp [h64]
  rw [show wall s=wds s 64 by unfold wall;rw [if_pos h64]]
  have HS:=hide h64
  clear h64
  go_enter Tryz.func172,Tryz.ntmps172
  go_wp2
  go_loopw [3,4] (fun u i wr=>∃ k:Nat,k≤16∧i=.int .i64 k∧Made w wr u (wds s k)) (fun _ i _=>16 - (intOf i).toNat)
  case atStart=>exact⟨0,by omega,rfl,unhide start⟩
  case round =>
   obtain⟨k,hk,rfl,hm⟩:=hrel
   clear start
   by_cases hlt:k<16
   ·have i0:(k:Int)<16:=by omega
    have M:=hide hm
    have C:=hide (fun w=>zb.specGet s (4*k) w (by rw [unhide HS];omega) hs)
    have H:Hid (wds s (k+1)=wds s k++[g4 (at_ s (4*k)) (at_ s (4*k+1)) (at_ s (4*k+2)) (at_ s (4*k+3))]):=by
     show wds s k++[nxt s (wds s k) k]=_
     unfold nxt
     rw [if_pos hlt]
    have hl:=wds_length s k
    have HL:Hid ((wds s k).length+1≤4194304):=by show _≤_;omega
    generalize g4 (at_ s (4*k)) (at_ s (4*k+1)) (at_ s (4*k+2)) (at_ s (4*k+3))=y at *
    generalize wds s k=A at *
    rw [show ((4*k:Nat):Int)=4*(k:Int) by omega] at C
    clear hm hl
    go_wp2_with fail
    refine (unhide C _).mono ?_;rintro e w1 ⟨rfl,g1⟩
    have M1:Hid (Made w w1 _ A):=⟨(unhide M).1.kept g1 (by cases Value.ownBlock _ with
     | none=>exact .inl rfl
     | some k=>exact .inr (fun e=>by cases e)),grown_trans (unhide M).2 g1⟩
    clear g1 C M
    go_wp2_with (at_builtin;refine appendT (w:=w) (A:=A) (B:=[y]) (grown_trans (unhide M1).2 (World.grownBy_alloc _ _ none)) ((unhide M1).1.alloc _) (one_at w1 y) (unhide HL) rfl (by rfl) _ _ (by rfl) (by rfl) (by rfl) ?_;intro v2 w2 m2 g2;have M2:=hide m2;clear m2 g2)
    go_roundw
    case rel=>exact⟨k+1,by omega,by go_num,by rw [unhide H];exact unhide M2⟩
    case measure=>simp [intOf];omega
   ·have i0:¬ (k:Int)<16:=by omega
    have hk':k=16:=by omega
    rw [hk'] at hm
    have M:=hide hm
    clear hm hk' hlt hk
    go_wp2
    go_loopw [3,5,6,7,8,9] (fun u i _ _ _ _ wr=>∃ (k g cap:Nat),16≤k∧k≤64∧i=.int .i64 k∧u=.slice (some ⟨g,0,none⟩) k cap∧Made w wr (.slice (some ⟨g,0,none⟩) k cap) (wds s k)) (fun _ i _ _ _ _ _=>64 - (intOf i).toNat)
    case atStart=>
     obtain⟨g,cap,e⟩:=form (unhide M) (by rw [wds_length];omega)
     have M':=unhide M
     rw [e] at M' ⊢
     rw [wds_length] at M' ⊢
     exact⟨16,g,cap,by omega,by omega,rfl,rfl,M'⟩
    case round =>
     obtain⟨k,g,cap,hk0,hk,rfl,rfl,hm⟩:=hrel
     clear M i0
     have hl:=wds_length s k
     by_cases hlt:k<64
     ·have i0:(k:Int)<64:=by omega
      obtain⟨k15,e15⟩:∃ j,j=k - 15:=⟨_,rfl⟩
      obtain⟨k2,e2⟩:∃ j,j=k - 2:=⟨_,rfl⟩
      obtain⟨k16,e16⟩:∃ j,j=k - 16:=⟨_,rfl⟩
      obtain⟨k7,e7⟩:∃ j,j=k - 7:=⟨_,rfl⟩
      have j15:IntKind.i64.wrap ((k:Int) - 15)=(k15:Int):=by rw [wrap64 (by omega) (by omega)];omega
      have j2:IntKind.i64.wrap ((k:Int) - 2)=(k2:Int):=by rw [wrap64 (by omega) (by omega)];omega
      have j16:IntKind.i64.wrap ((k:Int) - 16)=(k16:Int):=by rw [wrap64 (by omega) (by omega)];omega
      have j7:IntKind.i64.wrap ((k:Int) - 7)=(k7:Int):=by rw [wrap64 (by omega) (by omega)];omega
      have b15:(k15:Int)<(k:Int):=by omega
      have b2:(k2:Int)<(k:Int):=by omega
      have b16:(k16:Int)<(k:Int):=by omega
      have b7:(k7:Int)<(k:Int):=by omega
      have hown:=hm.1
      have cell:∀ j,j<k→wr.cell? ⟨g,j,none⟩=some (.int .u32 ((wds s k).getD j 0)):=by
       intro j hj
       rw [hl] at hown
       have:=hown.cellAt j (by omega)
       rw [this]
       simp [ints,hl,hj]
      have H:Hid (wds s (k+1)=wds s k++[sched ((wds s k).getD k16 0) ((wds s k).getD k15 0) ((wds s k).getD k7 0) ((wds s k).getD k2 0)]):=by
       show wds s k++[nxt s (wds s k) k]=_
       unfold nxt
       rw [if_neg (by omega),e15,e2,e16,e7]
      have c15:=cell k15 (by omega)
      have c2:=cell k2 (by omega)
      have c16:=cell k16 (by omega)
      have c7:=cell k7 (by omega)
      have x15:=hide (getD_wd s k k15)
      have x2:=hide (getD_wd s k k2)
      have M:=hide hm
      have HL:Hid ((wds s k).length+1≤4194304):=by show _≤_;omega
      have hgs:g<wr.heap.size:=World.block_lt_of_cell? wr _ c2
      generalize (wds s k).getD k15 0=b at *
      generalize (wds s k).getD k2 0=d at *
      generalize (wds s k).getD k16 0=a at *
      generalize (wds s k).getD k7 0=c at *
      clear cell hm hown e15 e2 e16 e7
      go_wp2
      go_quiet (fail)
      have R7:Hid (∀ w,Calls Tryz.prog 174 #[.int .u32 b,.int .u64 7] w fun e w'=>e=.returned (.int .u32 (rotI b 7))∧w'=w):=fun w=>zb.specRot b 7 w (unhide x15) (by decide) (by decide)
      have R18:Hid (∀ w,Calls Tryz.prog 174 #[.int .u32 b,.int .u64 18] w fun e w'=>e=.returned (.int .u32 (rotI b 18))∧w'=w):=fun w=>zb.specRot b 18 w (unhide x15) (by decide) (by decide)
      have R17:Hid (∀ w,Calls Tryz.prog 174 #[.int .u32 d,.int .u64 17] w fun e w'=>e=.returned (.int .u32 (rotI d 17))∧w'=w):=fun w=>zb.specRot d 17 w (unhide x2) (by decide) (by decide)
      have R19:Hid (∀ w,Calls Tryz.prog 174 #[.int .u32 d,.int .u64 19] w fun e w'=>e=.returned (.int .u32 (rotI d 19))∧w'=w):=fun w=>zb.specRot d 19 w (unhide x2) (by decide) (by decide)
      go_wp2_with fail
      refine (unhide R7 _).mono ?_;rintro e w' ⟨rfl,rfl⟩
      go_wp2_with fail
      refine (unhide R18 _).mono ?_;rintro e w' ⟨rfl,rfl⟩
      go_wp2_with fail
      refine (unhide R17 _).mono ?_;rintro e w' ⟨rfl,rfl⟩
      go_wp2_with fail
      refine (unhide R19 _).mono ?_;rintro e w' ⟨rfl,rfl⟩
      go_wp2_with fail
      have HY:Hid (sched a b c d=IntKind.u32.wrap (IntKind.u32.wrap (IntKind.u32.wrap (a+sig0 b)+c)+sig1 d)):=by
       show _=_
       simp only [IntKind.wrap_u32]
       rfl
      unfold sig0 sig1 at HY
      generalize bits .xor .u32 (bits .xor .u32 (rotI b 7) (rotI b 18)) (b / 8)=p at *
      generalize bits .xor .u32 (bits .xor .u32 (rotI d 17) (rotI d 19)) (d / 1024)=q at *
      have M1:Hid (Made w (wr.drewN nq) (.slice (some ⟨g,0,none⟩) k cap) (wds s k)):=⟨(unhide M).1.kept (grown_drewN _ _) (.inr (fun e=>by cases e)),grown_trans (unhide M).2 (grown_drewN _ _)⟩
      have d16:(wr.drewN nq).cell? ⟨g,k16,none⟩=some (.int .u32 a):=c16
      have d7:(wr.drewN nq).cell? ⟨g,k7,none⟩=some (.int .u32 c):=c7
      have hgs':g<(wr.drewN nq).heap.size:=hgs
      generalize hw:wr.drewN nq=W at *
      generalize wds s k=A at *
      clear c15 c2 c16 c7 R7 R18 R17 R19 M hgs hw
      obtain⟨y,hy⟩:∃ y,y=IntKind.u32.wrap (IntKind.u32.wrap (IntKind.u32.wrap (a+p)+c)+q):=⟨_,rfl⟩
      have hA1:Hid (w.grownBy (W.alloc (.cells #[.int .u32 y] 120)).drew none):=grown_trans (r:=none) (grown_trans (r:=none) (unhide M1).2 (World.grownBy_alloc _ _ none)) (grown_drewN _ 1)
      have ho1:Hid ((W.alloc (.cells #[.int .u32 y] 120)).drew.ownsRow w.heap.size 120 1 (.slice (some ⟨g,0,none⟩) k cap) A.length (ints A)):=((unhide M1).1.alloc _).kept (grown_drewN _ 1) (.inr (fun e=>by cases e))
      have hB1:Hid (∀ j,j < [y].length→(W.alloc (.cells #[.int .u32 y] 120)).drew.cell? ((⟨W.heap.size,0,none⟩:Addr).add j)=some (.int .u32 ([y].getD j 0))):=one_at W y
      rw [←hy] at HY
      rw [hy] at hA1 ho1 hB1
      go_region_law (rw [if_pos (by simp [Region.wanted])];refine zs.wpT (unhide hA1) (unhide ho1) (unhide hB1) (unhide HL) (.tmp 56) (.tmp 72) rfl rfl rfl ?_;intro v2 w2 m2 g2;have M2:=hide m2;clear m2 g2)
      all_goals
       rw [←hy] at M2
       have M3:Hid (Made w w2 v2 (wds s (k+1))):=by
        rw [unhide H,unhide HY]
        exact unhide M2
       obtain⟨g3,cap3,e3⟩:=form (unhide M3) (by rw [wds_length];omega)
       rw [wds_length] at e3
       subst e3
       clear hA1 ho1 hB1 M1 M2 hy
       go_wp2
       go_roundw
       case rel=>exact⟨k+1,g3,cap3,by omega,by omega,by go_num,rfl,unhide M3⟩
       case measure=>simp [intOf];omega
     ·have i0:¬ (k:Int)<64:=by omega
      have hk':k=64:=by omega
      subst hk'
      have M:=hide hm
      clear hm hlt hk hl hk0
      go_wp2
      go_ret
      exact⟨_,rfl,unhide M⟩
 ·have hb:((s.size:Int) != 64)=true:=by simp;omega
  rw [show wall s=[] by unfold wall;rw [if_neg h64]]
  clear h64
  go_enter Tryz.func172,Tryz.ntmps172
  go_wp2
  go_ret
  exact⟨_,rfl,unhide start⟩
end Go.Proofs.YtnlllcgcaddhmaaGreatDoor.zc
namespace Go.Proofs.YtnlllcgcaddhmaaGreatDoor.zd
open Go.ChangeShapes Go.WideShapes Go.ChangeAt Go.RowKit
open sl (hide unhide ret_int ret_bool grown_refl grown_trans grown_drewN)
open za (Wd rotI g4)
open zc (sig0 sig1 sched nxt wds wds_length getD_wd wall form)
open zb (at_ at_bd at_eq wrap64)
open zs (ints Made appendT one_at made_nil)
set_option linter.unusedVariables false
def part (s:ByteArray)(k:Nat):List Int:=wds s k++List.replicate (64 - k) 0
theorem part_length (s:ByteArray)(k:Nat)(h:k≤64):(part s k).length=64:=by simp [part,wds_length];omega
theorem part_set (s:ByteArray)(k:Nat)(h:k<64)(y:Int)(hy:wds s (k+1)=wds s k++[y]):(ints (part s k)).set k (.int .u32 y)=ints (part s (k+1)):=by
 have e1:64 - k=(64 - (k+1))+1:=by omega
 have e3:ints (part s k)=ints (wds s k)++(.int .u32 0::ints (List.replicate (64 - (k+1)) 0)):=by
  unfold part zs.ints
  rw [e1,List.replicate_succ,List.map_append,List.map_cons]
 have e4:ints (part s (k+1))=ints (wds s k)++(.int .u32 y::ints (List.replicate (64 - (k+1)) 0)):=by
  unfold part zs.ints
  rw [hy,List.map_append,List.map_append]
  simp
 rw [e3,e4,List.set_append_right _ _ (by rw [zs.ints_length,wds_length];omega)]
 rw [show k - (ints (wds s k)).length=0 from by rw [zs.ints_length,wds_length];omega]
 rfl
theorem part_getD (s:ByteArray)(k j:Nat)(h:j<k):(part s k).getD j 0=(wds s k).getD j 0:=by
 unfold part
 rw [List.getD,List.getD,List.getElem?_append_left (by rw [wds_length];exact h)]
theorem at_cut (s:ByteArray)(a j:Nat)(h:a+j<s.size):at_ (s.extract a s.size) j=at_ s (a+j):=by
 unfold zb.at_
 congr 2
 rw [List.getD,List.getD]
 congr 1
 have e:(s.extract a s.size).data=s.data.extract a s.size:=by simp
 have hsz:s.data.size=s.size:=rfl
 rw [e,Array.getElem?_toList,Array.getElem?_toList,Array.getElem?_extract,if_pos (by omega)]
set_option maxRecDepth 100000 in
set_option maxHeartbeats 2000000 in
theorem implSumWords (s:ByteArray)(w:World)(hs:s.size≤1048576) :
  Calls Tryz.prog 149 #[.string s] w fun e w'=>∃ u,e=.returned u∧Made w w' u (wall s):=by
 have start:=hide (made_nil w)
 by_cases h64:s.size=64
 ·have hb:((s.size:Int) != 64)=false:=by simp [h64]
  obtain⟨i0,hi,hz0,hz1,hz2⟩:=info_parts zs.infoW
  rw [show wall s=wds s 64 by unfold wall;rw [if_pos h64]]
  have HS:=hide h64
  have zero:Hid (∀ w':World,w'.ownsRow w.heap.size 120 1 (.slice (some ⟨w.heap.size,0,none⟩) 64 64) 64 (madeCells #[Value.int .u32 0] 64).toList→w'.ownsRow w.heap.size 120 1 (.slice (some ⟨w.heap.size,0,none⟩) 64 64) 64 (ints (part s 0))):=by
   intro w' h
   have e:(madeCells #[Value.int .u32 0] 64).toList=ints (part s 0):=by
    rw [toList_madeCells_one]
    simp [zs.ints,part,wds]
   rw [e] at h
   exact h
  clear h64 start
  go_enter Tryz.func149,Tryz.ntmps149
  go_wp2_with (first | (at_make;refine wpList_make_full _ rfl _ _ 183 rfl w.heap.size 120 i0 (.int .u32 0) 1 Tryz.underlying183 hi hz0 hz1 _ _ _ _ 64 rfl rfl (by rfl) (by rfl) ?b1 ?b2 ?b3 ?_) | go_in)
  case b1=>rw [hz2];omega
  case b2=>unfold maxLen;omega
  case b3=>exact Nat.le_refl _
  intro w1 hown hgrow
  have O:=hide (unhide zero w1 hown)
  have G:=hide hgrow
  clear hown hgrow zero hi hz0 hz1 hz2 i0
  go_wp2
  go_loopw [4,5,6,7,8,16] (fun _ _ _ _ _ i wr=>∃ k:Nat,k≤64∧i=.int .i64 k∧wr.ownsRow w.heap.size 120 1 (.slice (some ⟨w.heap.size,0,none⟩) 64 64) 64 (ints (part s k))∧w.grownBy wr none) (fun _ _ _ _ _ i _=>64 - (intOf i).toNat)
  case atStart=>exact⟨0,Nat.zero_le _,rfl,unhide O,unhide G⟩
  case round =>
   obtain⟨k,hk,rfl,hown,hg⟩:=hrel
   clear O G
   by_cases hlt:k<64
   ·have i0:(k:Int)<64:=by omega
    have c2:wr.cell? ⟨w.heap.size,k,none⟩=(ints (part s k))[k]?:=hown.cellAt k (by omega)
    obtain⟨x,hx⟩:∃ x,(ints (part s k))[k]?=some x:=⟨_,List.getElem?_eq_getElem (by rw [zs.ints_length,part_length _ _ hk];exact hlt)⟩
    rw [hx] at c2
    have c3:wr.frozen? ⟨w.heap.size,k,none⟩=false:=hown.frozenAt k
    have ST:Hid (∀ (wr':World) (y:Int),wr.grownBy wr' none→wds s (k+1)=wds s k++[y]→(wr'.setCell ⟨w.heap.size,k,none⟩ (.int .u32 y)).ownsRow w.heap.size 120 1 (.slice (some ⟨w.heap.size,0,none⟩) 64 64) 64 (ints (part s (k+1)))∧w.grownBy (wr'.setCell ⟨w.heap.size,k,none⟩ (.int .u32 y)) none):=by
     intro wr' y g' hy
     refine⟨zs.own_stored 64 (part_length s k hk) (part_length s (k+1) hlt) (hown.kept g' (.inr (fun e=>by cases e))) k y (part_set s k hlt y hy),?_⟩
     have hg':=grown_trans (r:=none) hg g'
     exact⟨hg'.os,hg'.tape,hg'.output,by simpa [World.setCell] using hg'.size,fun j hj _=>(Below.heap_setCell _ _ _ _ (by show j≠w.heap.size;omega)).trans (hg'.block j hj (fun e=>by cases e))⟩
    by_cases h16:k<16
    ·have i16:(k:Int)<16:=by omega
     have i4:(k:Int)*4≤(s.size:Int):=by rw [unhide HS];omega
     have hcut:4≤(s.extract (k*4) s.size).size:=by
      have:=unhide HS
      simp
      omega
     have C:=hide (fun w=>zb.readWord (s.extract (k*4) s.size) w hcut (by simp;omega))
     rw [at_cut s (k*4) 0 (by have:=unhide HS;omega),at_cut s (k*4) 1 (by have:=unhide HS;omega),at_cut s (k*4) 2 (by have:=unhide HS;omega),at_cut s (k*4) 3 (by have:=unhide HS;omega)] at C
     have H:Hid (wds s (k+1)=wds s k++[g4 (at_ s (k*4+0)) (at_ s (k*4+1)) (at_ s (k*4+2)) (at_ s (k*4+3))]):=by
      show wds s k++[nxt s (wds s k) k]=_
      unfold zc.nxt
      rw [if_pos h16,Nat.mul_comm 4 k]
      rfl
     generalize g4 (at_ s (k*4+0)) (at_ s (k*4+1)) (at_ s (k*4+2)) (at_ s (k*4+3))=y at *
     have R:=hide (unhide ST wr y (grown_refl _) (unhide H))
     clear hown hg hx ST hcut H
     go_wp2_with fail
     refine (unhide C _).mono ?_;rintro e w' ⟨rfl,rfl⟩
     go_wp2
     go_roundw
     case rel=>exact⟨k+1,by omega,by go_num,(unhide R).1,(unhide R).2⟩
     case measure=>simp [intOf];omega
    ·have i16:¬ (k:Int)<16:=by omega
     obtain⟨k15,e15⟩:∃ j,j=k - 15:=⟨_,rfl⟩
     obtain⟨k2,e2⟩:∃ j,j=k - 2:=⟨_,rfl⟩
     obtain⟨k16,e16⟩:∃ j,j=k - 16:=⟨_,rfl⟩
     obtain⟨k7,e7⟩:∃ j,j=k - 7:=⟨_,rfl⟩
     have j15:IntKind.i64.wrap ((k:Int) - 15)=(k15:Int):=by rw [wrap64 (by omega) (by omega)];omega
     have j2:IntKind.i64.wrap ((k:Int) - 2)=(k2:Int):=by rw [wrap64 (by omega) (by omega)];omega
     have j16:IntKind.i64.wrap ((k:Int) - 16)=(k16:Int):=by rw [wrap64 (by omega) (by omega)];omega
     have j7:IntKind.i64.wrap ((k:Int) - 7)=(k7:Int):=by rw [wrap64 (by omega) (by omega)];omega
     have b15:(k15:Int)<64:=by omega
     have b2:(k2:Int)<64:=by omega
     have b16:(k16:Int)<64:=by omega
     have b7:(k7:Int)<64:=by omega
     have cell:∀ j,j<k→wr.cell? ⟨w.heap.size,j,none⟩=some (.int .u32 ((wds s k).getD j 0)):=by
      intro j hj
      have:=hown.cellAt j (by omega)
      rw [this,←part_getD s k j hj]
      have hl:=part_length s k hk
      simp [ints,hl,show j<64 by omega]
     have H:Hid (wds s (k+1)=wds s k++[sched ((wds s k).getD k16 0) ((wds s k).getD k15 0) ((wds s k).getD k7 0) ((wds s k).getD k2 0)]):=by
      show wds s k++[nxt s (wds s k) k]=_
      unfold zc.nxt
      rw [if_neg (by omega),e15,e2,e16,e7]
     have c15:=cell k15 (by omega)
     have d2:=cell k2 (by omega)
     have c16:=cell k16 (by omega)
     have c7:=cell k7 (by omega)
     have x15:=hide (getD_wd s k k15)
     have x2:=hide (getD_wd s k k2)
     generalize (wds s k).getD k15 0=b at *
     generalize (wds s k).getD k2 0=d at *
     generalize (wds s k).getD k16 0=a at *
     generalize (wds s k).getD k7 0=c at *
     clear cell hown hg e15 e2 e16 e7 hx
     have R7:Hid (∀ w,Calls Tryz.prog 190 #[.int .u32 b,.int .i64 7] w fun e w'=>e=.returned (.int .u32 (rotI b 7))∧w'=w):=fun w=>zb.rot b 7 w (unhide x15) (by decide) (by decide)
     have R18:Hid (∀ w,Calls Tryz.prog 190 #[.int .u32 b,.int .i64 18] w fun e w'=>e=.returned (.int .u32 (rotI b 18))∧w'=w):=fun w=>zb.rot b 18 w (unhide x15) (by decide) (by decide)
     have R17:Hid (∀ w,Calls Tryz.prog 190 #[.int .u32 d,.int .i64 17] w fun e w'=>e=.returned (.int .u32 (rotI d 17))∧w'=w):=fun w=>zb.rot d 17 w (unhide x2) (by decide) (by decide)
     have R19:Hid (∀ w,Calls Tryz.prog 190 #[.int .u32 d,.int .i64 19] w fun e w'=>e=.returned (.int .u32 (rotI d 19))∧w'=w):=fun w=>zb.rot d 19 w (unhide x2) (by decide) (by decide)
     go_wp2
     go_quiet (fail)
     go_wp2_with fail
     refine (unhide R7 _).mono ?_;rintro e w' ⟨rfl,rfl⟩
     go_wp2_with fail
     refine (unhide R18 _).mono ?_;rintro e w' ⟨rfl,rfl⟩
     go_wp2_with fail
     refine (unhide R17 _).mono ?_;rintro e w' ⟨rfl,rfl⟩
     go_wp2_with fail
     refine (unhide R19 _).mono ?_;rintro e w' ⟨rfl,rfl⟩
     go_wp2_with fail
     have HY:Hid (sched a b c d=IntKind.u32.wrap (IntKind.u32.wrap (IntKind.u32.wrap (a+sig0 b)+c)+sig1 d)):=by
      show _=_
      simp only [IntKind.wrap_u32]
      rfl
     unfold zc.sig0 zc.sig1 at HY
     generalize bits .xor .u32 (bits .xor .u32 (rotI b 7) (rotI b 18)) (b / 8)=p at *
     generalize bits .xor .u32 (bits .xor .u32 (rotI d 17) (rotI d 19)) (d / 1024)=q at *
     clear R7 R18 R17 R19
     have HZ:sched a b c d=(a+p+c+q) % 4294967296:=by
      rw [unhide HY]
      simp only [IntKind.wrap_u32]
      omega
     have R:=hide (unhide ST (wr.drewN (nq+1)) ((a+p+c+q) % 4294967296) (grown_drewN _ _) (by rw [←HZ];exact unhide H))
     clear HZ ST H HY
     go_region
     all_goals
      go_wp2
      go_roundw
      case rel=>exact⟨k+1,by omega,by go_num,(unhide R).1,(unhide R).2⟩
      case measure=>simp [intOf];omega
   ·have i0:¬ (k:Int)<64:=by omega
    have hk':k=64:=by omega
    subst hk'
    have e:part s 64=wds s 64:=by simp [part]
    rw [e] at hown
    have M:Hid (Made w wr (.slice (some ⟨w.heap.size,0,none⟩) 64 64) (wds s 64)):=⟨by rw [wds_length];exact hown,hg⟩
    clear hown hg e hlt hk
    go_wp2
    go_ret
    exact⟨_,rfl,unhide M⟩
 ·have hb:((s.size:Int) != 64)=true:=by simp;omega
  rw [show wall s=[] by unfold wall;rw [if_neg h64]]
  clear h64
  go_enter Tryz.func149,Tryz.ntmps149
  go_wp2
  go_ret
  exact⟨_,rfl,unhide start⟩
end Go.Proofs.YtnlllcgcaddhmaaGreatDoor.zd
namespace Go.Proofs.YtnlllcgcaddhmaaGreatDoor.zk
open Go.ChangeShapes Go.WideShapes Go.ChangeAt Go.RowKit
open sl (hide unhide ret_int ret_bool grown_refl grown_trans grown_drewN)
open zs (ints Made)
set_option linter.unusedVariables false
def kL:List Int:=[1116352408,1899447441,3049323471,3921009573,961987163,1508970993,2453635748,2870763221,3624381080,310598401,607225278,1426881987,1925078388,2162078206,2614888103,3248222580,3835390401,4022224774,264347078,604807628,770255983,1249150122,1555081692,1996064986,2554220882,2821834349,2952996808,3210313671,3336571891,3584528711,113926993,338241895,666307205,773529912,1294757372,1396182291,1695183700,1986661051,2177026350,2456956037,2730485921,2820302411,3259730800,3345764771,3516065817,3600352804,4094571909,275423344,430227734,506948616,659060556,883997877,958139571,1322822218,1537002063,1747873779,1955562222,2024104815,2227730452,2361852424,2428436474,2756734187,3204031479,3329325298]
def sL:List Int:=[1779033703,3144134277,1013904242,2773480762,1359893119,2600822924,528734635,1541459225]
theorem sL_wd:∀ x∈sL,za.Wd x:=by unfold za.Wd;decide +kernel
def kc (i:Int):Int:=if 0≤i∧i≤63 then kL.getD i.toNat 0 else 0
def sc (i:Int):Int:=if 0≤i∧i≤7 then sL.getD i.toNat 0 else 0
def TabK (w:World):Prop:=∀ j,j<64→w.cell? ⟨1,j,none⟩=some (.int .u32 (kL.getD j 0))
def TabS (w:World):Prop:=∀ j,j<8→w.cell? ⟨0,j,none⟩=some (.int .u32 (sL.getD j 0))
theorem TabK.kept {w w':World}(h:TabK w)(g:w.grownBy w' none):TabK w':=fun j hj=>g.cell (h j hj) (fun e=>by cases e)
theorem TabS.kept {w w':World}(h:TabS w)(g:w.grownBy w' none):TabS w':=fun j hj=>g.cell (h j hj) (fun e=>by cases e)
theorem implSumConst (i:Int)(w:World)(h:TabK w):Calls Tryz.prog 151 #[.int .i64 i] w fun e w'=>e=.returned (.int .u32 (kc i))∧w'=w:=by
 by_cases h0:i<0
 ·rw [show kc i=0 by unfold kc;rw [if_neg (by omega)]]
  go_enter Tryz.func151,Tryz.ntmps151
  go_wp2
  go_ret
  exact⟨rfl,rfl⟩
 ·by_cases h1:64≤i
  ·rw [show kc i=0 by unfold kc;rw [if_neg (by omega)]]
   go_enter Tryz.func151,Tryz.ntmps151
   go_wp2
   go_ret
   exact⟨rfl,rfl⟩
  ·obtain⟨j,rfl⟩:=Int.eq_ofNat_of_zero_le (show 0≤i by omega)
   rw [show kc (j:Int)=kL.getD j 0 by unfold kc;rw [if_pos (by omega)];rfl]
   have c:=h j (by omega)
   generalize kL.getD j 0=x at *
   have i0:(j:Int)<64:=by omega
   clear h
   go_enter Tryz.func151,Tryz.ntmps151
   go_wp2
   go_ret
   exact⟨rfl,rfl⟩
theorem implSumStart (i:Int)(w:World)(h:TabS w):Calls Tryz.prog 109 #[.int .i64 i] w fun e w'=>e=.returned (.int .u32 (sc i))∧w'=w:=by
 by_cases h0:i<0
 ·rw [show sc i=0 by unfold sc;rw [if_neg (by omega)]]
  go_enter Tryz.func109,Tryz.ntmps109
  go_wp2
  go_ret
  exact⟨rfl,rfl⟩
 ·by_cases h1:8≤i
  ·rw [show sc i=0 by unfold sc;rw [if_neg (by omega)]]
   go_enter Tryz.func109,Tryz.ntmps109
   go_wp2
   go_ret
   exact⟨rfl,rfl⟩
  ·obtain⟨j,rfl⟩:=Int.eq_ofNat_of_zero_le (show 0≤i by omega)
   rw [show sc (j:Int)=sL.getD j 0 by unfold sc;rw [if_pos (by omega)];rfl]
   have c:=h j (by omega)
   generalize sL.getD j 0=x at *
   have i0:(j:Int)<8:=by omega
   clear h
   go_enter Tryz.func109,Tryz.ntmps109
   go_wp2
   go_ret
   exact⟨rfl,rfl⟩
theorem inR (x a b:Int)(w:World):Calls Tryz.prog 88 #[.int .i64 x,.int .i64 a,.int .i64 b] w fun e w'=>e=.returned (.bool (decide (a≤x∧x≤b)))∧w'=w:=by
 by_cases h1:a≤x
 ·by_cases h2:x≤b
  ·rw [decide_eq_true (And.intro h1 h2)]
   go_enter Tryz.func88,Tryz.ntmps88
   go_wp2
   go_ret
   exact⟨rfl,rfl⟩
  ·rw [decide_eq_false (fun h=>h2 h.2)]
   go_enter Tryz.func88,Tryz.ntmps88
   go_wp2
   go_ret
   exact⟨rfl,rfl⟩
 ·rw [decide_eq_false (fun h=>h1 h.1)]
  go_enter Tryz.func88,Tryz.ntmps88
  go_wp2
  go_ret
  exact⟨rfl,rfl⟩
set_option maxRecDepth 100000 in
set_option maxHeartbeats 4000000 in
theorem specTable (w:World):Calls Tryz.prog 173 #[] w fun e w'=>e=.returned (.slice (some ⟨w.heap.size,0,none⟩) 64 64)∧w'=w.alloc (.cells (ints kL).toArray 120):=by
 go_enter Tryz.func173,Tryz.ntmps173
 go_wp2
 go_ret
 exact⟨rfl,rfl⟩
theorem cell_k (w:World)(j:Nat)(h:j<64):(w.alloc (.cells (ints kL).toArray 120)).cell? ⟨w.heap.size,j,none⟩=some (.int .u32 (kL.getD j 0)):=by
 have e:=Go.heap_alloc_new w (.cells (ints kL).toArray 120)
 have hj:j<kL.length:=h
 simp only [World.cell?,e]
 show (ints kL).toArray[j]?=_
 rw [List.getElem?_toArray,zs.ints,List.getElem?_map,List.getElem?_eq_getElem hj,List.getD,List.getElem?_eq_getElem hj]
 rfl
theorem cell_s (w:World)(j:Nat)(h:j<8):(w.alloc (.cells #[.int .u32 1779033703,.int .u32 3144134277,.int .u32 1013904242,.int .u32 2773480762,.int .u32 1359893119,.int .u32 2600822924,.int .u32 528734635,.int .u32 1541459225] 120)).cell? ⟨w.heap.size,j,none⟩=some (.int .u32 (sL.getD j 0)):=by
 have e:=Go.heap_alloc_new w (.cells (ints sL).toArray 120)
 have hj:j<sL.length:=h
 show (w.alloc (.cells (ints sL).toArray 120)).cell? ⟨w.heap.size,j,none⟩=some (.int .u32 (sL.getD j 0))
 simp only [World.cell?,e]
 show (ints sL).toArray[j]?=_
 rw [List.getElem?_toArray,zs.ints,List.getElem?_map,List.getElem?_eq_getElem hj,List.getD,List.getElem?_eq_getElem hj]
 rfl
theorem specSumStart (i:Int)(w:World):Calls Tryz.prog 129 #[.int .i64 i] w fun e w'=>e=.returned (.int .u32 (sc i))∧w.grownBy w' none:=by
 have C:=hide (inR i 0 7)
 by_cases h:0≤i∧i≤7
 ·rw [decide_eq_true h] at C
  obtain⟨j,rfl⟩:=Int.eq_ofNat_of_zero_le h.1
  rw [show sc (j:Int)=sL.getD j 0 by unfold sc;rw [if_pos h];rfl]
  have c:=cell_s w j (by omega)
  have i0:(j:Int)<8:=by omega
  generalize sL.getD j 0=x at *
  clear h
  go_enter Tryz.func129,Tryz.ntmps129
  go_wp2_with fail
  refine (unhide C _).mono ?_;rintro e w' ⟨rfl,rfl⟩
  go_wp2_with fail
  go_ret
  exact⟨rfl,World.grownBy_alloc _ _ _⟩
 ·rw [decide_eq_false h] at C
  rw [show sc i=0 by unfold sc;rw [if_neg h]]
  clear h
  go_enter Tryz.func129,Tryz.ntmps129
  go_wp2_with fail
  refine (unhide C _).mono ?_;rintro e w' ⟨rfl,rfl⟩
  go_wp2_with fail
  go_ret
  exact⟨rfl,World.grownBy_alloc _ _ _⟩
end Go.Proofs.YtnlllcgcaddhmaaGreatDoor.zk
namespace Go.Proofs.YtnlllcgcaddhmaaGreatDoor.zl
open Go.ChangeShapes Go.WideShapes Go.ChangeAt Go.RowKit
open sl (hide unhide ret_int ret_bool grown_refl grown_trans grown_drewN)
open za (Wd rotI g4)
set_option linter.unusedVariables false
def s1 (e:Int):Int:=bits .xor .u32 (bits .xor .u32 (rotI e 6) (rotI e 11)) (rotI e 25)
def s0 (a:Int):Int:=bits .xor .u32 (bits .xor .u32 (rotI a 2) (rotI a 13)) (rotI a 22)
def ch (e f g:Int):Int:=bits .xor .u32 (bits .and .u32 e f) (bits .and .u32 (bits .xor .u32 IntKind.u32.max e) g)
def mj (a b c:Int):Int:=bits .xor .u32 (bits .xor .u32 (bits .and .u32 a b) (bits .and .u32 a c)) (bits .and .u32 b c)
def na (a b c e f g h k:Int):Int:=(h+s1 e+ch e f g+k+(s0 a+mj a b c)) % 4294967296
def ne (d e f g h k:Int):Int:=(d+(h+s1 e+ch e f g+k)) % 4294967296
theorem not_max (e:Int):bits .xor .u32 e 4294967295=bits .xor .u32 IntKind.u32.max e:=by
 have h:IntKind.u32.max=4294967295:=by decide
 rw [h]
 simp only [bits,BitVec.xor_comm]
def v8 (L:List Int):Value:=.agg (L.map (Value.int .u32)).toArray
def rnd (L:List Int)(k:Int):List Int:=match L with
 | [a,b,c,d,e,f,g,h]=>[na a b c e f g h k,a,b,c,ne d e f g h k,e,f,g]
 | L=>L
theorem set_new {w W:World}(g:w.grownBy W none){b:Nat}(hb:w.heap.size≤b)(j:Nat)(v:Value):w.grownBy (W.setCell ⟨b,j,none⟩ v) none :=
 ⟨g.os,g.tape,g.output,by simpa [World.setCell] using g.size,fun k hk _=>(Below.heap_setCell _ _ _ _ (by show k≠b;omega)).trans (g.block k hk (fun e=>by cases e))⟩
def Wd8 (L:List Int):Prop:=L.length=8∧∀ x∈L,Wd x
theorem wd8_parts {L:List Int}(h:Wd8 L):∃ a b c d e f g i,L=[a,b,c,d,e,f,g,i]∧Wd a∧Wd b∧Wd c∧Wd d∧Wd e∧Wd f∧Wd g∧Wd i:=by
 obtain⟨hl,hw⟩:=h
 match L,hl with
 | [a,b,c,d,e,f,g,i],_=>exact⟨a,b,c,d,e,f,g,i,rfl,hw _ (by simp),hw _ (by simp),hw _ (by simp),hw _ (by simp),hw _ (by simp),hw _ (by simp),hw _ (by simp),hw _ (by simp)⟩
theorem wd8_of {a b c d e f g i:Int}(h1:Wd a)(h2:Wd b)(h3:Wd c)(h4:Wd d)(h5:Wd e)(h6:Wd f)(h7:Wd g)(h8:Wd i):Wd8 [a,b,c,d,e,f,g,i] :=
 ⟨rfl,fun x hx=>by
  simp only [List.mem_cons,List.not_mem_nil,or_false] at hx
  rcases hx with rfl | rfl | rfl | rfl | rfl | rfl | rfl | rfl <;> assumption⟩
theorem rnd_wd {L:List Int}(h:Wd8 L)(k:Int):Wd8 (rnd L k):=by
 obtain⟨a,b,c,d,e,f,g,i,rfl,h1,h2,h3,h4,h5,h6,h7,h8⟩:=wd8_parts h
 exact wd8_of (za.mod_wd _) h1 h2 h3 (za.mod_wd _) h5 h6 h7
set_option maxRecDepth 100000 in
set_option maxHeartbeats 2000000 in
theorem implRound (L:List Int)(k:Int)(w:World)(hL:Wd8 L) :
  Calls Tryz.prog 150 #[v8 L,.int .u32 k] w fun r w'=>r=.returned (v8 (rnd L k))∧w.grownBy w' none:=by
 obtain⟨a,b,c,d,e,f,g,i,rfl,ha,hb,hc,hd,he,hf,hg,hh⟩:=wd8_parts hL
 show Calls Tryz.prog 150 #[.agg #[.int .u32 a,.int .u32 b,.int .u32 c,.int .u32 d,.int .u32 e,.int .u32 f,.int .u32 g,.int .u32 i],.int .u32 k] w fun r w'=>r=.returned (.agg #[.int .u32 (na a b c e f g i k),.int .u32 a,.int .u32 b,.int .u32 c,.int .u32 (ne d e f g i k),.int .u32 e,.int .u32 f,.int .u32 g])∧w.grownBy w' none
 have R6:Hid (∀ w,Calls Tryz.prog 190 #[.int .u32 e,.int .i64 6] w fun r w'=>r=.returned (.int .u32 (rotI e 6))∧w'=w):=fun w=>zb.rot e 6 w he (by decide) (by decide)
 have R11:Hid (∀ w,Calls Tryz.prog 190 #[.int .u32 e,.int .i64 11] w fun r w'=>r=.returned (.int .u32 (rotI e 11))∧w'=w):=fun w=>zb.rot e 11 w he (by decide) (by decide)
 have R25:Hid (∀ w,Calls Tryz.prog 190 #[.int .u32 e,.int .i64 25] w fun r w'=>r=.returned (.int .u32 (rotI e 25))∧w'=w):=fun w=>zb.rot e 25 w he (by decide) (by decide)
 have R2:Hid (∀ w,Calls Tryz.prog 190 #[.int .u32 a,.int .i64 2] w fun r w'=>r=.returned (.int .u32 (rotI a 2))∧w'=w):=fun w=>zb.rot a 2 w ha (by decide) (by decide)
 have R13:Hid (∀ w,Calls Tryz.prog 190 #[.int .u32 a,.int .i64 13] w fun r w'=>r=.returned (.int .u32 (rotI a 13))∧w'=w):=fun w=>zb.rot a 13 w ha (by decide) (by decide)
 have R22:Hid (∀ w,Calls Tryz.prog 190 #[.int .u32 a,.int .i64 22] w fun r w'=>r=.returned (.int .u32 (rotI a 22))∧w'=w):=fun w=>zb.rot a 22 w ha (by decide) (by decide)
 clear ha hb hc hd he hf hg hh hL
 go_enter Tryz.func150,Tryz.ntmps150
 go_wp2
 go_quiet (fail)
 go_wp2
 go_quiet (fail)
 go_wp2_with fail
 refine (unhide R6 _).mono ?_;rintro r w' ⟨rfl,rfl⟩
 go_wp2_with fail
 refine (unhide R11 _).mono ?_;rintro r w' ⟨rfl,rfl⟩
 go_wp2_with fail
 refine (unhide R25 _).mono ?_;rintro r w' ⟨rfl,rfl⟩
 go_wp2_with fail
 refine (unhide R2 _).mono ?_;rintro r w' ⟨rfl,rfl⟩
 go_wp2_with fail
 refine (unhide R13 _).mono ?_;rintro r w' ⟨rfl,rfl⟩
 go_wp2_with fail
 refine (unhide R22 _).mono ?_;rintro r w' ⟨rfl,rfl⟩
 go_wp2_with fail
 refine bodyPost_ret (v:=.agg #[.int .u32 (na a b c e f g i k),.int .u32 a,.int .u32 b,.int .u32 c,.int .u32 (ne d e f g i k),.int .u32 e,.int .u32 f,.int .u32 g]) (by simp [results,Tryz.results150,go_sem,na,ne,s1,s0,ch,mj]) rfl ⟨rfl,?_⟩
 refine set_new (set_new (set_new (set_new (set_new (set_new (set_new (set_new ?_ (by omega) _ _) (by omega) _ _) (by omega) _ _) (by omega) _ _) (by omega) _ _) (by omega) _ _) (by omega) _ _) (by omega) _ _
 exact grown_trans (grown_trans (r:=none) (World.grownBy_alloc _ _ none) (World.grownBy_alloc _ _ none)) (grown_drewN _ _)
end Go.Proofs.YtnlllcgcaddhmaaGreatDoor.zl
namespace Go.Proofs.YtnlllcgcaddhmaaGreatDoor.zm
open Go.ChangeShapes Go.WideShapes Go.ChangeAt Go.RowKit
open sl (hide unhide ret_int ret_bool grown_refl grown_trans grown_drewN)
open za (Wd rotI g4)
open zs (ints Made)
open zc (wds wds_length wall getD_wd form)
open zk (kL kc TabK)
open zl (rnd v8 Wd8 wd8_parts wd8_of rnd_wd set_new implRound)
set_option linter.unusedVariables false
def Bx (w:World)(b:Nat)(L:List Int):Prop:=w.heap[b]?=some (.cells (ints L).toArray 146 (0,0))
theorem Bx.kept {w w':World}{b:Nat}{L:List Int}(h:Bx w b L)(g:w.grownBy w' none):Bx w' b L :=
 (g.block b (Array.getElem?_eq_some_iff.1 h).1 (fun e=>by cases e)).trans h
theorem Bx.lt {w:World}{b:Nat}{L:List Int}(h:Bx w b L):b<w.heap.size:=(Array.getElem?_eq_some_iff.1 h).1
theorem Bx.cell {w:World}{b:Nat}{L:List Int}(h:Bx w b L)(j:Nat)(hj:j<L.length):w.cell? ⟨b,j,none⟩=some (.int .u32 (L.getD j 0)):=by
 unfold Bx at h
 simp only [World.cell?,h]
 show (ints L).toArray[j]?=_
 rw [List.getElem?_toArray,zs.ints,List.getElem?_map,List.getElem?_eq_getElem hj,List.getD,List.getElem?_eq_getElem hj]
 rfl
theorem Bx.frozen {w:World}{b:Nat}{L:List Int}(h:Bx w b L)(j:Nat):w.frozen? ⟨b,j,none⟩=false:=by
 unfold Bx at h
 simp [World.frozen?,h]
theorem Bx.set {w:World}{b:Nat}{L:List Int}(h:Bx w b L)(j:Nat)(x:Int):Bx (w.setCell ⟨b,j,none⟩ (.int .u32 x)) b (L.set j x):=by
 unfold Bx at *
 have e:ints (L.set j x)=(ints L).set j (.int .u32 x):=by simp [zs.ints,List.map_set]
 rw [e]
 simp [World.setCell,Array.getElem?_modify,h]
theorem Bx.other {w:World}{b c:Nat}{L:List Int}(h:Bx w b L)(hc:b≠c)(j:Nat)(v:Value):Bx (w.setCell ⟨c,j,none⟩ v) b L :=
 (Below.heap_setCell _ _ _ _ hc).trans h
theorem Bx.new (w:World)(L:List Int):Bx (w.alloc (.cells (ints L).toArray 146)) w.heap.size L:=Go.heap_alloc_new w _
def Rd (w:World)(b:Nat)(M:List Int):Prop:=∀ j,j<M.length→w.cell? ⟨b,j,none⟩=some (.int .u32 (M.getD j 0))
theorem Rd.kept {w w':World}{b:Nat}{M:List Int}(h:Rd w b M)(g:w.grownBy w' none):Rd w' b M:=fun j hj=>g.cell (h j hj) (fun e=>by cases e)
theorem Rd.other {w:World}{b c:Nat}{M:List Int}(h:Rd w b M)(hc:b≠c)(i:Nat)(v:Value):Rd (w.setCell ⟨c,i,none⟩ v) b M:=fun j hj=>by
 rw [←h j hj]
 exact World.cell?_of_block (a:=⟨b,j,none⟩) (Below.heap_setCell _ _ _ _ hc)
theorem Bx.rd {w:World}{b:Nat}{L:List Int}(h:Bx w b L):Rd w b L:=fun j hj=>h.cell j hj
structure Inv (w wr:World) (nb rb pb g kb:Nat) (N Z L ws ks:List Int):Prop where
 grown:w.grownBy wr none
 now:Bx wr nb N
 res:Bx wr rb Z
 st:Rd wr pb L
 wd:Rd wr g ws
 tb:Rd wr kb ks
theorem Inv.kept {w wr wr':World}{nb rb pb g kb:Nat}{N Z L ws ks:List Int}(h:Inv w wr nb rb pb g kb N Z L ws ks)(k:wr.grownBy wr' none):Inv w wr' nb rb pb g kb N Z L ws ks :=
 ⟨grown_trans h.grown k,h.now.kept k,h.res.kept k,h.st.kept k,h.wd.kept k,h.tb.kept k⟩
theorem Inv.set {w wr:World}{nb rb pb g kb:Nat}{N Z L ws ks:List Int}(h:Inv w wr nb rb pb g kb N Z L ws ks)(hn:w.heap.size≤nb)(d1:rb≠nb)(d2:pb≠nb)(d3:g≠nb)(d4:kb≠nb)(j:Nat)(x:Int) :
  Inv w (wr.setCell ⟨nb,j,none⟩ (.int .u32 x)) nb rb pb g kb (N.set j x) Z L ws ks :=
 ⟨set_new h.grown hn j _,h.now.set j x,h.res.other d1 j _,h.st.other d2 j _,h.wd.other d3 j _,h.tb.other d4 j _⟩
theorem Inv.set8 {w wr:World}{nb rb pb g kb:Nat}{a b c d e f i m a' b' c' d' e' f' i' m':Int}{Z L ws ks:List Int}(h:Inv w wr nb rb pb g kb [a,b,c,d,e,f,i,m] Z L ws ks)(hn:w.heap.size≤nb)(d1:rb≠nb)(d2:pb≠nb)(d3:g≠nb)(d4:kb≠nb) :
  Inv w ((((((((wr.setCell ⟨nb,0,none⟩ (.int .u32 a')).setCell ⟨nb,1,none⟩ (.int .u32 b')).setCell ⟨nb,2,none⟩ (.int .u32 c')).setCell ⟨nb,3,none⟩ (.int .u32 d')).setCell ⟨nb,4,none⟩ (.int .u32 e')).setCell ⟨nb,5,none⟩ (.int .u32 f')).setCell ⟨nb,6,none⟩ (.int .u32 i')).setCell ⟨nb,7,none⟩ (.int .u32 m')) nb rb pb g kb [a',b',c',d',e',f',i',m'] Z L ws ks :=
 (((((((h.set hn d1 d2 d3 d4 0 a').set hn d1 d2 d3 d4 1 b').set hn d1 d2 d3 d4 2 c').set hn d1 d2 d3 d4 3 d').set hn d1 d2 d3 d4 4 e').set hn d1 d2 d3 d4 5 f').set hn d1 d2 d3 d4 6 i').set hn d1 d2 d3 d4 7 m'
theorem start {w w1:World}{L Z:List Int}(g:((w.alloc (.cells (ints L).toArray 146)).alloc (.cells (ints Z).toArray 146)).grownBy w1 none):Bx w1 w.heap.size L∧Bx w1 (w.heap.size+1) Z∧w.grownBy w1 none:=by
 refine⟨((Bx.new w L).kept (World.grownBy_alloc _ _ none)).kept g,?_,grown_trans (r:=none) (grown_trans (r:=none) (World.grownBy_alloc _ _ none) (World.grownBy_alloc _ _ none)) g⟩
 have h:=Bx.new (w.alloc (.cells (ints L).toArray 146)) Z
 rw [World.size_alloc] at h
 exact h.kept g
theorem Bx.parts {w:World}{b:Nat}{a b' c d e f g i:Int}(h:Bx w b [a,b',c,d,e,f,g,i]):w.cell? ⟨b,0,none⟩=some (.int .u32 a)∧w.cell? ⟨b,1,none⟩=some (.int .u32 b')∧w.cell? ⟨b,2,none⟩=some (.int .u32 c)∧w.cell? ⟨b,3,none⟩=some (.int .u32 d)∧w.cell? ⟨b,4,none⟩=some (.int .u32 e)∧w.cell? ⟨b,5,none⟩=some (.int .u32 f)∧w.cell? ⟨b,6,none⟩=some (.int .u32 g)∧w.cell? ⟨b,7,none⟩=some (.int .u32 i)∧∀ j,w.frozen? ⟨b,j,none⟩=false :=
 ⟨h.cell 0 (by simp),h.cell 1 (by simp),h.cell 2 (by simp),h.cell 3 (by simp),h.cell 4 (by simp),h.cell 5 (by simp),h.cell 6 (by simp),h.cell 7 (by simp),h.frozen⟩
def rr (L ws:List Int):Nat→List Int
 | 0=>L
 | i+1=>rnd (rr L ws i) ((kL.getD i 0+ws.getD i 0) % 4294967296)
theorem rr_wd {L ws:List Int}(h:Wd8 L):∀ i,Wd8 (rr L ws i)
 | 0=>h
 | i+1=>rnd_wd (rr_wd h i) _
def ad (N L:List Int):Nat→List Int
 | 0=>N
 | i+1=>(ad N L i).set i ((N.getD i 0+L.getD i 0) % 4294967296)
theorem ad_length (N L:List Int):∀ i,(ad N L i).length=N.length
 | 0=>rfl
 | i+1=>by rw [ad,List.length_set,ad_length N L i]
theorem ad_getD (N L:List Int):∀ i j,i≤j→(ad N L i).getD j 0=N.getD j 0
 | 0,_,_=>rfl
 | i+1,j,h=>by
  rw [ad,List.getD,List.getElem?_set_ne (by omega)]
  exact ad_getD N L i j (by omega)
theorem ad_wd {N L:List Int}(h:Wd8 N):∀ i,Wd8 (ad N L i)
 | 0=>h
 | i+1=>⟨by rw [ad_length];exact h.1,fun x hx=>by
  rw [ad] at hx
  rcases List.mem_or_eq_of_mem_set hx with hx | hx
  ·exact (ad_wd h i).2 x hx
  ·rw [hx]
   exact za.mod_wd _⟩
def blk (L:List Int)(s:ByteArray):List Int:=if s.size=64 then ad (rr L (wds s 64) 64) L 8 else L
theorem blk_wd {L:List Int}(h:Wd8 L)(s:ByteArray):Wd8 (blk L s):=by
 unfold blk
 split
 ·exact ad_wd (rr_wd h _) _
 ·exact h
set_option maxRecDepth 100000 in
set_option maxHeartbeats 4000000 in
theorem implSumBlock (L:List Int)(s:ByteArray)(w:World)(hL:Wd8 L)(hs:s.size≤1048576)(hT:TabK w) :
  Calls Tryz.prog 111 #[v8 L,.string s] w fun r w'=>r=.returned (v8 (blk L s))∧w.grownBy w' none:=by
 have HT:=hide hT
 have H8:=hide hL
 obtain⟨a,b,c,d,e,f,g,i,rfl,ha,hb,hc,hd,he,hf,hg,hi⟩:=wd8_parts hL
 clear ha hb hc hd he hf hg hi hL hT
 obtain⟨W0,hW0⟩:∃ W0,W0=(w.alloc (.cells (ints [a,b,c,d,e,f,g,i]).toArray 146)).alloc (.cells (ints [0,0,0,0,0,0,0,0]).toArray 146):=⟨_,rfl⟩
 by_cases h64:s.size=64
 ·have hb:((s.size:Int) != 64)=false:=by simp [h64]
  have E:Hid (blk [a,b,c,d,e,f,g,i] s=ad (rr [a,b,c,d,e,f,g,i] (wds s 64) 64) [a,b,c,d,e,f,g,i] 8):=by show _=_;unfold blk;rw [if_pos h64]
  have CW:=hide (fun w=>zd.implSumWords s w hs)
  rw [show wall s=wds s 64 by unfold zc.wall;rw [if_pos h64]] at CW
  show Calls Tryz.prog 111 #[.agg #[.int .u32 a,.int .u32 b,.int .u32 c,.int .u32 d,.int .u32 e,.int .u32 f,.int .u32 g,.int .u32 i],.string s] w fun r w'=>r=.returned (v8 (blk [a,b,c,d,e,f,g,i] s))∧w.grownBy w' none
  clear h64
  go_enter Tryz.func111,Tryz.ntmps111
  go_wp2_with fail
  refine (unhide CW _).mono ?_;rintro r w1 ⟨u,rfl,m1⟩
  obtain⟨B0,B1,g1⟩:=start (w:=w) (w1:=w1) (L:=[a,b,c,d,e,f,g,i]) (Z:=[0,0,0,0,0,0,0,0]) m1.2
  obtain⟨gb,cap,hu⟩:=form m1 (by rw [wds_length];decide)
  rw [wds_length] at hu
  subst hu
  have R1:Rd w1 gb (wds s 64):=by
   intro j hj
   have h1:=m1.1
   rw [wds_length] at h1 hj
   rw [h1.cellAt j (by omega)]
   have hl:=wds_length s 64
   simp [zs.ints,hl,hj]
  have l0:=B0.lt
  have l1:=B1.lt
  have lg:gb<w1.heap.size:=World.block_lt_of_cell? w1 _ (R1 0 (by rw [wds_length];decide))
  obtain⟨p0,p1,p2,p3,p4,p5,p6,p7,_⟩:=B0.parts
  have I1:Hid (Inv w (w1.alloc (.cells (ints [a,b,c,d,e,f,g,i]).toArray 146)) w1.heap.size (w.heap.size+1) w.heap.size gb w.heap.size [a,b,c,d,e,f,g,i] [0,0,0,0,0,0,0,0] [a,b,c,d,e,f,g,i] (wds s 64) [a,b,c,d,e,f,g,i]) :=
   have ga:=World.grownBy_alloc w1 (.cells (ints [a,b,c,d,e,f,g,i]).toArray 146) none
   ⟨grown_trans g1 ga,Bx.new _ _,B1.kept ga,B0.rd.kept ga,R1.kept ga,B0.rd.kept ga⟩
  have hsz:=g1.size
  have n0:w.heap.size≤w1.heap.size:=by omega
  have n1:w.heap.size+1≠w1.heap.size:=by omega
  have n2:w.heap.size≠w1.heap.size:=by omega
  have n3:gb≠w1.heap.size:=by omega
  have N0:=hide n0
  have N1:=hide n1
  have N2:=hide n2
  have N3:=hide n3
  clear B0 B1 g1 m1 R1 CW hW0 W0 n0 n1 n2 n3 hsz l0 l1 lg
  go_wp2_with fail
  go_loopw [7,16] (fun _ t wr=>∃ k:Nat,k≤64∧t=.int .i64 k∧Inv w wr w1.heap.size (w.heap.size+1) w.heap.size gb w.heap.size (rr [a,b,c,d,e,f,g,i] (wds s 64) k) [0,0,0,0,0,0,0,0] [a,b,c,d,e,f,g,i] (wds s 64) [a,b,c,d,e,f,g,i]) (fun _ t _=>64 - (intOf t).toNat)
  case atStart=>exact⟨0,by omega,rfl,unhide I1⟩
  case round =>
   obtain⟨k,hk,rfl,hI⟩:=hrel
   clear I1 p0 p1 p2 p3 p4 p5 p6 p7
   have hN:=rr_wd (L:=[a,b,c,d,e,f,g,i]) (ws:=wds s 64) (unhide H8) k
   by_cases hlt:k<64
   ·have i0:(k:Int)<64:=by omega
    have CK:=hide (fun w=>zk.implSumConst (k:Int) w)
    rw [show kc (k:Int)=kL.getD k 0 by unfold zk.kc;rw [if_pos (by omega)];rfl] at CK
    have x0:=hI.wd k (by rw [wds_length];exact hlt)
    have CR:=hide (fun w'=>implRound (rr [a,b,c,d,e,f,g,i] (wds s 64) k) ((kL.getD k 0+(wds s 64).getD k 0) % 4294967296) w' hN)
    have HR:Hid (rr [a,b,c,d,e,f,g,i] (wds s 64) (k+1)=rnd (rr [a,b,c,d,e,f,g,i] (wds s 64) k) ((kL.getD k 0+(wds s 64).getD k 0) % 4294967296)):=rfl
    have HI:=hide hI
    have hN2:=rnd_wd hN ((kL.getD k 0+(wds s 64).getD k 0) % 4294967296)
    obtain⟨a',b',c',d',e',f',g',i',hE,_⟩:=wd8_parts hN
    rw [hE] at CR HI HR hN2
    obtain⟨a2,b2,c2,d2,e2,f2,g2,i2,hE2,_⟩:=wd8_parts hN2
    rw [hE2] at CR HR
    have CR':Hid (∀ w',Calls Tryz.prog 150 #[.agg #[.int .u32 a',.int .u32 b',.int .u32 c',.int .u32 d',.int .u32 e',.int .u32 f',.int .u32 g',.int .u32 i'],.int .u32 ((kL.getD k 0+(wds s 64).getD k 0) % 4294967296)] w' fun r w''=>r=.returned (.agg #[.int .u32 a2,.int .u32 b2,.int .u32 c2,.int .u32 d2,.int .u32 e2,.int .u32 f2,.int .u32 g2,.int .u32 i2])∧w'.grownBy w'' none):=unhide CR
    have wk:IntKind.u32.wrap (kL.getD k 0+(wds s 64).getD k 0)=(kL.getD k 0+(wds s 64).getD k 0) % 4294967296:=IntKind.wrap_u32 _
    generalize (kL.getD k 0+(wds s 64).getD k 0) % 4294967296=kk at *
    generalize kL.getD k 0=x at *
    obtain⟨y,HYY⟩:∃ y,Hid ((wds s 64).getD k 0=y):=⟨_,rfl⟩
    rw [show (wds s 64).getD k 0=y from unhide HYY] at x0 wk
    have CKd:=hide (unhide CK wr.drew ((unhide HT).kept (grown_trans (unhide HI).grown (grown_drewN _ 1))))
    have CRd:=hide (unhide CR' wr.drew)
    have CC:=hide (fun (w':World) (g':wr.drew.grownBy w' none)=>And.intro ((unhide HI).now.kept (grown_trans (r:=none) (grown_drewN wr 1) g')).parts (((unhide HI).wd.kept (grown_trans (r:=none) (grown_drewN wr 1) g')) k (by rw [wds_length];exact hlt)))
    rw [show (wds s 64).getD k 0=y from unhide HYY] at CC
    obtain⟨q0,q1,q2,q3,q4,q5,q6,q7,q8⟩:=(unhide HI).now.parts
    clear hI hN hN2 hE hE2 CR CR' CK
    go_wp2_with fail
    go_region_with (first
     | (go_at_call 151;refine (unhide CKd).mono ?_;rintro r w' ⟨rfl,rfl⟩)
     | (go_at_call 150;refine (unhide CRd).mono ?_;rintro r w2 ⟨rfl,g2'⟩;have G2:=hide g2';obtain⟨⟨t0,t1,t2,t3,t4,t5,t6,t7,t8⟩,t9⟩:=unhide CC _ g2';clear g2'))
    all_goals
     have IN:=hide (Inv.set8 (a':=a2) (b':=b2) (c':=c2) (d':=d2) (e':=e2) (f':=f2) (i':=g2) (m':=i2) ((unhide HI).kept (grown_trans (r:=none) (grown_drewN wr 1) (unhide G2))) (unhide N0) (unhide N1) (unhide N2) (unhide N3) (unhide N2))
     clear t0 t1 t2 t3 t4 t5 t6 t7 t8 t9 q0 q1 q2 q3 q4 q5 q6 q7 q8 CC CRd CKd
     go_wp2_with fail
     go_roundw
     case rel=>exact⟨k+1,by omega,by go_num,by rw [unhide HR];exact unhide IN⟩
     case measure=>simp [intOf];omega
   ·have i0:¬ (k:Int)<64:=by omega
    have hk':k=64:=by omega
    subst hk'
    have HN8:=hide hN
    generalize rr [a,b,c,d,e,f,g,i] (wds s 64) 64=N at *
    have HI:=hide hI
    clear hI hlt hk hN
    go_wp2_with fail
    go_loopw [8,29] (fun _ t wr=>∃ k:Nat,k≤8∧t=.int .i64 k∧Inv w wr w1.heap.size (w.heap.size+1) w.heap.size gb w.heap.size (ad N [a,b,c,d,e,f,g,i] k) [0,0,0,0,0,0,0,0] [a,b,c,d,e,f,g,i] (wds s 64) [a,b,c,d,e,f,g,i]) (fun _ t _=>8 - (intOf t).toNat)
    case atStart=>exact⟨0,by omega,rfl,unhide HI⟩
    case round =>
     obtain⟨k,hk,rfl,hI⟩:=hrel
     clear HI
     have hal:=ad_length N [a,b,c,d,e,f,g,i] k
     rw [(unhide HN8).1] at hal
     by_cases hlt:k<8
     ·have i1:(k:Int)<8:=by omega
      have c0:=hI.now.cell k (by omega)
      rw [ad_getD N _ k k (Nat.le_refl _)] at c0
      have c1:=hI.st k hlt
      have c2:=hI.now.frozen k
      have ST:=hide (fun (wr':World) (g':wr.grownBy wr' none)=>(hI.kept g').set (unhide N0) (unhide N1) (unhide N2) (unhide N3) (unhide N2) k ((N.getD k 0 + [a,b,c,d,e,f,g,i].getD k 0) % 4294967296))
      have HA:Hid (ad N [a,b,c,d,e,f,g,i] (k+1)=(ad N [a,b,c,d,e,f,g,i] k).set k ((N.getD k 0 + [a,b,c,d,e,f,g,i].getD k 0) % 4294967296)):=rfl
      generalize [a,b,c,d,e,f,g,i].getD k 0=y at *
      generalize N.getD k 0=x at *
      have R:=hide (unhide ST (wr.drewN 1) (grown_drewN _ _))
      clear hI hal ST
      go_wp2
      go_region
      all_goals
       go_wp2
       go_roundw
       case rel=>exact⟨k+1,by omega,by go_num,by rw [unhide HA];exact unhide R⟩
       case measure=>simp [intOf];omega
     ·have i1:¬ (k:Int)<8:=by omega
      have hk':k=8:=by omega
      subst hk'
      have hA:=ad_wd (L:=[a,b,c,d,e,f,g,i]) (unhide HN8) 8
      obtain⟨a2,b2,c2,d2,e2,f2,g2,i2,hE2,_⟩:=wd8_parts hA
      rw [hE2] at hI
      have EE:=unhide E
      rw [hE2] at EE
      have E2:=hide EE
      obtain⟨q0,q1,q2,q3,q4,q5,q6,q7,q8⟩:=hI.now.parts
      obtain⟨r0,r1,r2,r3,r4,r5,r6,r7,r8⟩:=hI.res.parts
      have G:=hide hI.grown
      have hrn:¬ w.heap.size+1=w1.heap.size:=unhide N1
      clear hA hE2 hI EE E hal
      go_wp2
      refine bodyPost_ret (v:=.agg #[.int .u32 a2,.int .u32 b2,.int .u32 c2,.int .u32 d2,.int .u32 e2,.int .u32 f2,.int .u32 g2,.int .u32 i2]) (by simp [results,Tryz.results111,go_sem,r0,r1,r2,r3,r4,r5,r6,r7]) rfl ⟨by rw [unhide E2];rfl,?_⟩
      refine set_new (set_new (set_new (set_new (set_new (set_new (set_new (set_new (unhide G) (by omega) _ _) (by omega) _ _) (by omega) _ _) (by omega) _ _) (by omega) _ _) (by omega) _ _) (by omega) _ _) (by omega) _ _
 ·have hb:((s.size:Int) != 64)=true:=by simp;omega
  rw [show blk [a,b,c,d,e,f,g,i] s=[a,b,c,d,e,f,g,i] by unfold blk;rw [if_neg h64]]
  show Calls Tryz.prog 111 #[.agg #[.int .u32 a,.int .u32 b,.int .u32 c,.int .u32 d,.int .u32 e,.int .u32 f,.int .u32 g,.int .u32 i],.string s] w fun r w'=>r=.returned (.agg #[.int .u32 a,.int .u32 b,.int .u32 c,.int .u32 d,.int .u32 e,.int .u32 f,.int .u32 g,.int .u32 i])∧w.grownBy w' none
  clear h64 hW0 W0
  go_enter Tryz.func111,Tryz.ntmps111
  go_wp2
  refine bodyPost_ret (v:=.agg #[.int .u32 a,.int .u32 b,.int .u32 c,.int .u32 d,.int .u32 e,.int .u32 f,.int .u32 g,.int .u32 i]) (by simp [results,Tryz.results111,go_sem]) rfl ⟨rfl,?_⟩
  exact grown_trans (World.grownBy_alloc _ _ none) (World.grownBy_alloc _ _ none)
end Go.Proofs.YtnlllcgcaddhmaaGreatDoor.zm
namespace Go.Proofs.YtnlllcgcaddhmaaGreatDoor.ze
open Go.ChangeShapes Go.WideShapes Go.ChangeAt Go.RowKit
open sl (hide unhide ret_int ret_bool grown_refl grown_trans grown_drewN)
open zb (at_ at_bd at_eq wrap64)
open byt (Byt MadeB run_app run_back run_of)
open dec (str)
set_option linter.unusedVariables false
theorem of_own {lo:Nat}{w:World}{a:Addr}{cap:Nat}{l:List UInt8}(h:w.ownsRow lo 5 1 (.slice (some a) l.length cap) l.length (Lib.byteCells l)):Byt lo w (.slice (some a) l.length cap) l:=by
 obtain⟨_,h⟩:=h
 rcases h with ⟨e,_⟩ | ⟨g,c,cur,e,hg,hh,hn,hm,hs,ht⟩
 ·cases e
 ·cases e
  exact⟨g,cap,cur,_,rfl,hg,hh,.inl rfl,by simpa using hn,hm,by simpa using hs,by simpa using ht⟩
theorem MadeB.kept {w w1 w2:World}{v:Value}{l:List UInt8}(h:MadeB w w1 v l)(g:w1.grownBy w2 none):MadeB w w2 v l:=⟨h.1.kept g,grown_trans h.2 g⟩
theorem wpB {o:Oper}{a:Act}{K:Act→World→Prop}{Q:Exit→Act→World→Prop}{w wr:World}{v:Value}{l t:List UInt8}{ad:Addr}{n cap:Nat}
  (hm:MadeB w wr v l) (hc:∀ j u,(Lib.byteCells t)[j]?=some u→wr.cell? (ad.add j)=some u) (hl:l.length+t.length≤4194304) (hn:n=t.length) (s x:Operand)
  (ho:o.op=.call { callee:=.builtin .append,args:=#[s,x],argTypes:=#[22,22] }) (hs:a.eval s=v) (hx:a.eval x=.slice (some ad) n cap)
  (h:∀ v' w1,MadeB w w1 v' (l++t)→K (a.put o.dst v') w1):o.wp Tryz.prog a wr K Q:=by
 subst hn
 obtain⟨v',w1,hr,h2⟩:=run_app w wr v l t o.type ad cap hm hc hl
 unfold Oper.wp execOp
 simp only [ho,resolve,invoke,builtin,Sem.run_bind,Sem.run_pure,Result.andThen_ok,List.map_toArray,List.map_cons,List.map_nil,hs,hx,hr]
 exact h v' w1 h2
theorem appB {ops:Array Oper}{rest:List Oper}{o:Oper}{a:Act}{Q:Exit→Act→World→Prop}{w wr:World}{v:Value}{l t:List UInt8}{ad:Addr}{n cap:Nat}
  (hm:MadeB w wr v l) (hc:∀ j u,(Lib.byteCells t)[j]?=some u→wr.cell? (ad.add j)=some u) (hl:l.length+t.length≤4194304) (hn:n=t.length) (hgd:o.guard=none) (s x:Operand)
  (ho:o.op=.call { callee:=.builtin .append,args:=#[s,x],argTypes:=#[22,22] }) (hs:a.eval s=v) (hx:a.eval x=.slice (some ad) n cap)
  (h:∀ v' w1,MadeB w w1 v' (l++t)→wpList Tryz.prog ops Q rest (a.put o.dst v') w1):wpList Tryz.prog ops Q (o::rest) a wr :=
 wpList_plain hgd fun K hK=>wpB hm hc hl hn s x ho hs hx fun v' w1 m=>hK _ _ (h v' w1 m)
theorem cell_new (w:World)(c:Array Value)(t:TypeId)(j:Nat):(w.alloc (.cells c t)).cell? ((⟨w.heap.size,0,none⟩:Addr).add j)=c[j]?:=by
 rw [Addr.add_lit,Nat.zero_add]
 have:=Go.heap_alloc_new w (.cells c t)
 simp only [World.cell?,this]
 rfl
theorem one_at (wr:World)(x:UInt8):∀ j u,(Lib.byteCells [x])[j]?=some u→(wr.alloc (.cells #[.int .u8 x.toNat] 5)).cell? ((⟨wr.heap.size,0,none⟩:Addr).add j)=some u:=by
 intro j u hj
 rw [cell_new,←hj,←List.getElem?_toArray]
 rfl
def bts (s:ByteArray):List UInt8:=s.data.toList
theorem bts_length (s:ByteArray):(bts s).length=s.size:=rfl
end Go.Proofs.YtnlllcgcaddhmaaGreatDoor.ze
namespace Go.Proofs.YtnlllcgcaddhmaaGreatDoor.zi
open Go.ChangeShapes Go.WideShapes Go.ChangeAt Go.RowKit
open sl (hide unhide ret_int ret_bool grown_refl grown_trans grown_drewN)
open zb (at_ at_bd at_eq wrap64)
open byt (Byt MadeB run_app run_back run_of)
open ze (of_own MadeB.kept wpB appB cell_new one_at bts bts_length)
open dec (str)
open za (Wd)
set_option linter.unusedVariables false
def put4 (x:Nat):List UInt8:=[UInt8.ofNat (x / 16777216),UInt8.ofNat (x / 65536),UInt8.ofNat (x / 256),UInt8.ofNat x]
theorem put4_length (x:Nat):(put4 x).length=4:=rfl
def be (n x i:Nat):List UInt8:=(List.range i).map fun j=>UInt8.ofNat (x / 2 ^ (8*(n - 1 - j)))
theorem be_succ (n x i:Nat):be n x (i+1)=be n x i++[UInt8.ofNat (x / 2 ^ (8*(n - 1 - i)))]:=by
 simp [be,List.range_succ]
theorem be_length (n x i:Nat):(be n x i).length=i:=by simp [be]
theorem be4 (x:Nat):be 4 x 4=put4 x:=by
 simp [be,put4,List.range_succ]
theorem of_mod (a b:Nat)(h:a % 256=b % 256):UInt8.ofNat a=UInt8.ofNat b:=by
 apply UInt8.toNat_inj.1
 rw [UInt8.toNat_ofNat',UInt8.toNat_ofNat']
 omega
theorem be8 (x:Nat)(h:x<4294967296):be 8 x 8=put4 0++put4 x:=by
 simp only [be,put4,List.range_succ,List.range_zero,List.nil_append,List.map_cons,List.map_nil,List.cons_append]
 simp only [List.cons.injEq,and_true]
 refine⟨?_,?_,?_,?_,trivial,trivial,trivial,?_⟩ <;> apply of_mod <;> simp <;> omega
theorem four_at (wr:World)(a b c d:UInt8):∀ j,(h:j < [a,b,c,d].length)→(wr.alloc (.cells #[.int .u8 a.toNat,.int .u8 b.toNat,.int .u8 c.toNat,.int .u8 d.toNat] 5)).cell? ((⟨wr.heap.size,0,none⟩:Addr).add j)=some (.int .u8 ([a,b,c,d][j].toNat:Int)):=by
 intro j hj
 rw [cell_new]
 match j,hj with
 | 0,_=>rfl
 | 1,_=>rfl
 | 2,_=>rfl
 | 3,_=>rfl
theorem byte_of (x:Nat):((x:Int) % 256)=((UInt8.ofNat x).toNat:Int):=by
 rw [UInt8.toNat_ofNat']
 omega
theorem put_back (x:Nat)(w:World)(hx:x<4294967296) :
  (convert 22 9 (.slice (some ⟨w.heap.size,0,none⟩) 4 4)).run Tryz.prog (w.alloc (.cells #[.int .u8 ((x:Int) / 16777216),.int .u8 ((x:Int) / 65536 % 256),.int .u8 ((x:Int) / 256 % 256),.int .u8 ((x:Int) % 256)] 5)) =
   .ok (str (put4 x)) (w.alloc (.cells #[.int .u8 ((x:Int) / 16777216),.int .u8 ((x:Int) / 65536 % 256),.int .u8 ((x:Int) / 256 % 256),.int .u8 ((x:Int) % 256)] 5)):=by
 rw [show (x:Int) / 16777216=((UInt8.ofNat (x / 16777216)).toNat:Int) by rw [←byte_of];omega,show (x:Int) / 65536 % 256=((UInt8.ofNat (x / 65536)).toNat:Int) by rw [←byte_of];omega,show (x:Int) / 256 % 256=((UInt8.ofNat (x / 256)).toNat:Int) by rw [←byte_of];omega,byte_of x]
 exact run_convert_bytes_back (P:=Tryz.prog) _ 22 9 5 ⟨w.heap.size,0,none⟩ 4 (put4 x) Tryz.underlying22 Tryz.underlying5 Tryz.underlying9 (four_at w _ _ _ _)
theorem specPut (x:Nat)(w:World)(hx:x<4294967296) :
  Calls Tryz.prog 132 #[.int .u32 x] w fun e w'=>e=.returned (str (put4 x))∧w.grownBy w' none:=by
 have x0:(0:Int)≤(x:Int):=by omega
 have x1:(x:Int)<4294967296:=by omega
 have CV:=put_back x w hx
 unfold dec.str at CV
 generalize put4 x=l at *
 go_enter Tryz.func132,Tryz.ntmps132
 go_wp2
 go_ret
 exact⟨rfl,World.grownBy_alloc _ _ _⟩
def BytN (lo:Nat)(w:World)(v:Value)(l:List UInt8):Prop:=(v=.slice none 0 0∧l=[])∨Byt lo w v l
def MadeN (w w1:World)(v:Value)(l:List UInt8):Prop:=BytN w.heap.size w1 v l∧w.grownBy w1 none
theorem MadeN.of {w w1:World}{v:Value}{l:List UInt8}(h:MadeB w w1 v l):MadeN w w1 v l:=⟨.inr h.1,h.2⟩
theorem MadeN.kept {w w1 w2:World}{v:Value}{l:List UInt8}(h:MadeN w w1 v l)(g:w1.grownBy w2 none):MadeN w w2 v l :=
 ⟨h.1.elim .inl (fun k=>.inr (k.kept g)),grown_trans h.2 g⟩
theorem wpN {o:Oper}{a:Act}{K:Act→World→Prop}{Q:Exit→Act→World→Prop}{w wr:World}{v:Value}{l t:List UInt8}{ad:Addr}{n cap:Nat}
  (hm:MadeN w wr v l) (hc:∀ j u,(Lib.byteCells t)[j]?=some u→wr.cell? (ad.add j)=some u) (hl:l.length+t.length≤4194304) (h0:t≠[]) (hn:n=t.length) (s x:Operand)
  (ho:o.op=.call { callee:=.builtin .append,args:=#[s,x],argTypes:=#[22,22] }) (hs:a.eval s=v) (hx:a.eval x=.slice (some ad) n cap)
  (h:∀ v' w1,MadeB w w1 v' (l++t)→K (a.put o.dst v') w1):o.wp Tryz.prog a wr K Q:=by
 obtain⟨hb,hg⟩:=hm
 rcases hb with ⟨rfl,rfl⟩ | hb
 ·subst hn
  obtain⟨i0,hi,hz0,hz1,hz2⟩:=info_parts byt.infoU
  have hsz:=hg.size
  refine wp_append_own _ s x 22 ho w.heap.size 5 i0 (.int .u8 0) 1 1 Tryz.underlying22 hi hz0 hz1 hz2 rfl (by decide) (.slice none 0 0) 0 [] hs ⟨by simp,.inl ⟨rfl,rfl⟩⟩ ad t.length cap (Lib.byteCells t) hx (by rw [Lib.byteCells_length];omega) hc (Lib.byteCells_one t) ?_ ?_ ?_ ?_
  ·unfold maxLen
   simp at hl
   omega
  ·simp at hl
   omega
  ·exact hsz
  ·intro v' w1 hown' hgrow _
   refine h v' w1 ⟨?_,⟨hgrow.os.trans hg.os,hgrow.tape.trans hg.tape,hgrow.output.trans hg.output,Nat.le_trans hsz hgrow.size,fun k hk _=>?_⟩⟩
   ·rw [List.nil_append]
    have e:∃ a c,v'=.slice (some a) t.length c:=by
     obtain⟨_,h⟩:=hown'
     rcases h with ⟨_,h1⟩ | ⟨g,c,cur,e,_⟩
     ·exact absurd (List.eq_nil_of_length_eq_zero (by omega)) h0
     ·exact⟨_,c,by rw [e,Nat.zero_add]⟩
    obtain⟨a,c,rfl⟩:=e
    exact of_own (by simpa using hown')
   ·rw [hgrow.block k (by omega) (fun e=>by cases e)]
    exact hg.block k hk (fun e=>by cases e)
 ·exact wpB ⟨hb,hg⟩ hc hl hn s x ho hs hx h
theorem appN {ops:Array Oper}{rest:List Oper}{o:Oper}{a:Act}{Q:Exit→Act→World→Prop}{w wr:World}{v:Value}{l t:List UInt8}{ad:Addr}{n cap:Nat}
  (hm:MadeN w wr v l) (hc:∀ j u,(Lib.byteCells t)[j]?=some u→wr.cell? (ad.add j)=some u) (hl:l.length+t.length≤4194304) (h0:t≠[]) (hn:n=t.length) (hgd:o.guard=none) (s x:Operand)
  (ho:o.op=.call { callee:=.builtin .append,args:=#[s,x],argTypes:=#[22,22] }) (hs:a.eval s=v) (hx:a.eval x=.slice (some ad) n cap)
  (h:∀ v' w1,MadeB w w1 v' (l++t)→wpList Tryz.prog ops Q rest (a.put o.dst v') w1):wpList Tryz.prog ops Q (o::rest) a wr :=
 wpList_plain hgd fun K hK=>wpN hm hc hl h0 hn s x ho hs hx fun v' w1 m=>hK _ _ (h v' w1 m)
set_option maxRecDepth 100000 in
set_option maxHeartbeats 2000000 in
theorem appendNumber (v:Value)(l:List UInt8)(x n:Nat)(w0 w:World)(hx:x<18446744073709551616)(hn:n≤8)(hl:l.length≤2097152)(hm:MadeN w0 w v l) :
  Calls Tryz.prog 112 #[v,.int .u64 x,.int .i64 n] w fun e w'=>∃ u,e=.returned u∧MadeN w0 w' u (l++be n x n):=by
 have start:Hid (MadeN w0 w v (l++be n x 0)):=by show MadeN _ _ _ _;simp [be];exact hm
 have x0:(0:Int)≤(x:Int):=by omega
 have x1:(x:Int)<18446744073709551616:=by omega
 clear hm
 go_enter Tryz.func112,Tryz.ntmps112
 go_wp2
 go_loopw [0,7,9] (fun u _ i wr=>∃ k:Nat,k≤n∧i=.int .i64 k∧MadeN w0 wr u (l++be n x k)) (fun _ _ i _=>n - (intOf i).toNat)
 case atStart=>exact⟨0,Nat.zero_le _,rfl,unhide start⟩
 case round =>
  obtain⟨k,hk,rfl,hm⟩:=hrel
  clear start
  by_cases hlt:k<n
  ·have i0:(k:Int)<(n:Int):=by omega
   have H:=hide (be_succ n x k)
   obtain⟨y,hy⟩:∃ y:UInt8,y=UInt8.ofNat (x / 2 ^ (8*(n - 1 - k))):=⟨_,rfl⟩
   have hy2:(x:Int) / 2 ^ (8*(n - 1 - k)) % 256=(y.toNat:Int):=by
    rw [hy,←byte_of]
    simp
   rw [←hy] at H
   have HL:Hid ((l++be n x k).length+1≤4194304):=by
    show _≤_
    rw [List.length_append,be_length]
    omega
   have M1:Hid (MadeN w0 (wr.alloc (.cells #[.int .u8 y.toNat] 5)) _ (l++be n x k)):=MadeN.kept hm (World.grownBy_alloc _ _ none)
   have HB:=hide (one_at wr y)
   have ne:[y]≠[]:=by simp
   have NE:=hide ne
   clear hm hy x0 x1 hx ne
   go_wp2_with (at_builtin;refine appN (unhide M1) (unhide HB) (unhide HL) (unhide NE) rfl rfl (.tmp 12) (.tmp 21) rfl rfl rfl ?_;intro v2 w2 m2;have M2:=hide (MadeN.of m2);clear m2)
   go_roundw
   case rel=>exact⟨k+1,by omega,by go_num,by rw [unhide H,←List.append_assoc];exact unhide M2⟩
   case measure=>simp [intOf];omega
  ·have i0:¬ (k:Int)<(n:Int):=by omega
   have hk':k=n:=by omega
   subst hk'
   have M:=hide hm
   clear hm
   go_wp2
   go_ret
   exact⟨_,rfl,unhide M⟩
end Go.Proofs.YtnlllcgcaddhmaaGreatDoor.zi
namespace Go.Proofs.YtnlllcgcaddhmaaGreatDoor.zj
open Go.ChangeShapes Go.WideShapes Go.ChangeAt Go.RowKit
open sl (hide unhide ret_int ret_bool grown_refl grown_trans grown_drewN)
open zb (at_ at_bd at_eq wrap64)
open byt (Byt MadeB run_app run_back run_of)
open ze (of_own MadeB.kept wpB appB cell_new one_at bts bts_length)
open zi (put4 be be8 be_length specPut MadeN MadeN.of appendNumber)
open dec (str)
set_option linter.unusedVariables false
def zn (n:Nat):Nat:=(119 - n % 64) % 64
theorem zn_lt (n:Nat):zn n<64:=Nat.mod_lt _ (by decide)
theorem zn_mod (n:Nat):(n+1+zn n) % 64=56:=by unfold zn;omega
theorem zn_least (n j:Nat)(h:j≤zn n)(h2:(n+1+j) % 64=56):j=zn n:=by unfold zn at *;omega
def mid (l:List UInt8)(j:Nat):List UInt8:=l++[128]++List.replicate j 0
theorem mid_length (l:List UInt8)(j:Nat):(mid l j).length=l.length+1+j:=by simp [mid];omega
theorem mid_succ (l:List UInt8)(j:Nat):mid l (j+1)=mid l j++[0]:=by
 unfold mid
 rw [List.replicate_succ']
 simp
def padL (l:List UInt8):List UInt8:=mid l (zn l.length)++put4 0++put4 (8*l.length)
def padT (s:ByteArray):List UInt8:=if s.size≤60000 then padL (bts s) else []
theorem str_bts (s:ByteArray):str (bts s)=.string s:=rfl
theorem form {lo:Nat}{w:World}{v:Value}{l:List UInt8}{n:Nat}(h:Byt lo w v l)(hn:l.length=n):∃ g cap,v=.slice (some ⟨g,0,none⟩) n cap:=by
 obtain⟨g,cap,e⟩:=h.form
 exact⟨g,cap,by rw [e,hn]⟩
theorem cat3 (a b c:List UInt8):Value.string (ByteArray.mk a.toArray++ByteArray.mk b.toArray++ByteArray.mk c.toArray)=str (a++b++c):=by
 unfold dec.str
 congr 1
def lenOf:Value→Nat
 | .slice _ n _=>n
 | _=>0
set_option maxRecDepth 100000 in
set_option maxHeartbeats 2000000 in
theorem specSumPad (s:ByteArray)(w:World)(hs:s.size≤1048576) :
  Calls Tryz.prog 130 #[.string s] w fun e w'=>e=.returned (str (padT s))∧w.grownBy w' none:=by
 by_cases h6:s.size≤60000
 ·have hb:¬ (60000:Int)<(s.size:Int):=by omega
  rw [show padT s=padL (bts s) by unfold padT;rw [if_pos h6]]
  obtain⟨v0,w0,hr,hm0⟩:=run_of w (bts s) (by rw [bts_length];omega)
  rw [show Value.string ⟨(bts s).toArray⟩=.string s from str_bts s] at hr
  obtain⟨g0,cap0,rfl⟩:=form hm0.1 (bts_length s)
  have M1:Hid (MadeB w (w0.alloc (.cells #[.int .u8 128] 5)) (.slice (some ⟨g0,0,none⟩) s.size cap0) (bts s)):=MadeB.kept hm0 (World.grownBy_alloc _ _ none)
  have B1:Hid (∀ j u,(Lib.byteCells [128])[j]?=some u→(w0.alloc (.cells #[.int .u8 128] 5)).cell? ((⟨w0.heap.size,0,none⟩:Addr).add j)=some u):=one_at w0 128
  have L1:Hid ((bts s).length+1≤4194304):=by show _≤_;rw [bts_length];omega
  clear hm0
  go_enter Tryz.func130,Tryz.ntmps130
  go_wp2_with (at_builtin;refine appB (unhide M1) (unhide B1) (unhide L1) rfl rfl (.tmp 10) (.tmp 11) rfl rfl rfl ?_;intro v2 w2 m2;have M2:=hide m2;clear m2)
  go_loopw [3] (fun u wr=>∃ j n g cap:Nat,n=s.size+1+j∧j≤zn s.size∧u=.slice (some ⟨g,0,none⟩) n cap∧MadeB w wr (.slice (some ⟨g,0,none⟩) n cap) (mid (bts s) j)) (fun u _=>s.size+65 - lenOf u)
  case atStart =>
   obtain⟨g,cap,e⟩:=form (n:=s.size+1) (unhide M2).1 (by rw [List.length_append,bts_length];rfl)
   have:=unhide M2
   rw [e] at this ⊢
   exact⟨0,_,g,cap,rfl,Nat.zero_le _,rfl,by simpa [mid] using this⟩
  case round =>
   obtain⟨j,n,g,cap,hn,hj,rfl,hm⟩:=hrel
   clear M1 B1 L1 M2 hr
   have hz:=zn_lt s.size
   have hl:=mid_length (bts s) j
   rw [bts_length,←hn] at hl
   have HL:Hid ((mid (bts s) j).length+1≤4194304):=by show _≤_;omega
   have hn2:n≤70000:=by omega
   by_cases hjz:j=zn s.size
   ·have t1:((n:Int) % 64 != 56)=false:=by
     have:=zn_mod s.size
     rw [←hjz,←hn] at this
     simp
     omega
    have E:Hid (padL (bts s)=mid (bts s) j++put4 0++put4 (8*s.size)):=by
     show _=_
     unfold padL
     rw [bts_length,hjz]
    have CV:Hid (∀ w',wr.grownBy w' none→(convert 22 9 (.slice (some ⟨g,0,none⟩) n cap)).run Tryz.prog w'=.ok (str (mid (bts s) j)) w'):=fun w' g'=>run_back w' _ _ _ (hm.1.kept g')
    have P0:=hide (fun w=>specPut 0 w (by decide))
    have P1:=hide (fun w=>specPut (8*s.size) w (by omega))
    rw [show ((8*s.size:Nat):Int)=8*(s.size:Int) by omega] at P1
    have G:=hide hm.2
    unfold dec.str at CV P0 P1
    have hA:(mid (bts s) j).length≤70000:=by omega
    have hZ:(put4 0).length≤4:=Nat.le_refl _
    have hY:(put4 (8*s.size)).length≤4:=Nat.le_refl _
    generalize mid (bts s) j=A at *
    generalize put4 0=Z at *
    generalize put4 (8*s.size)=Y at *
    clear hm hn hj hjz hl HL hz
    go_wp2_with fail
    have CV0:=unhide CV wr.drew (grown_drewN _ 1)
    have j8:IntKind.u32.wrap (8*(s.size:Int))=8*(s.size:Int):=by rw [IntKind.wrap_u32];omega
    go_region_with (go_at_call 132;first | (refine (unhide P0 _).mono ?_;rintro e w3 ⟨rfl,g3⟩;have G3:=hide (grown_trans (r:=none) (grown_drewN wr 1) g3);have CV3:=unhide CV _ (unhide G3);clear g3 P0) | (refine (unhide P1 _).mono ?_;rintro e w4 ⟨rfl,g4⟩;have G4:=hide (grown_trans (r:=none) (unhide G3) g4);have CV4:=unhide CV _ (unhide G4);clear g4))
    all_goals
     go_wp2_with fail
     go_ret
     rw [unhide E,←cat3]
     exact⟨rfl,grown_trans (unhide G) (unhide G4)⟩
   ·have t1:((n:Int) % 64 != 56)=true:=by
     have:=zn_least s.size j hj
     rw [←hn] at this
     simp
     omega
    have M1:Hid (MadeB w (wr.alloc (.cells #[.int .u8 0] 5)) (.slice (some ⟨g,0,none⟩) n cap) (mid (bts s) j)):=MadeB.kept hm (World.grownBy_alloc _ _ none)
    have B1:Hid (∀ j u,(Lib.byteCells [0])[j]?=some u→(wr.alloc (.cells #[.int .u8 0] 5)).cell? ((⟨wr.heap.size,0,none⟩:Addr).add j)=some u):=one_at wr 0
    have H:=hide (mid_succ (bts s) j)
    have HN:=hide hn
    have HJ:Hid (j+1≤zn s.size):=by show _≤_;omega
    have HZ:Hid (n<s.size+65):=by show _<_;omega
    clear hm hn hj hjz hl hz
    go_wp2_with (at_builtin;refine appB (unhide M1) (unhide B1) (unhide HL) rfl rfl (.tmp 17) (.tmp 18) rfl rfl rfl ?_;intro v2 w2 m2;have M2:=hide m2;clear m2)
    rw [←unhide H] at M2
    obtain⟨g2,cap2,e2⟩:=form (n:=n+1) (unhide M2).1 (by rw [mid_length,bts_length];have:=unhide HN;omega)
    subst e2
    go_roundw
    case rel=>exact⟨j+1,n+1,g2,cap2,by have:=unhide HN;omega,unhide HJ,rfl,unhide M2⟩
    case measure=>have:=unhide HZ;simp [lenOf];omega
 ·have hb:(60000:Int)<(s.size:Int):=by omega
  rw [show padT s=[] by unfold padT;rw [if_neg h6]]
  go_enter Tryz.func130,Tryz.ntmps130
  go_wp2
  go_ret
  exact⟨rfl,grown_refl _⟩
set_option maxRecDepth 100000 in
set_option maxHeartbeats 2000000 in
theorem implSumPad (s:ByteArray)(w:World)(hs:s.size≤1048576) :
  Calls Tryz.prog 110 #[.string s] w fun e w'=>e=.returned (str (padT s))∧w.grownBy w' none:=by
 by_cases h6:s.size≤60000
 ·have hb:¬ (60000:Int)<(s.size:Int):=by omega
  rw [show padT s=padL (bts s) by unfold padT;rw [if_pos h6]]
  obtain⟨v0,w0,hr,hm0⟩:=run_of w (bts s) (by rw [bts_length];omega)
  rw [show Value.string ⟨(bts s).toArray⟩=.string s from str_bts s] at hr
  obtain⟨g0,cap0,rfl⟩:=form hm0.1 (bts_length s)
  have M1:Hid (MadeB w (w0.alloc (.cells #[.int .u8 128] 5)) (.slice (some ⟨g0,0,none⟩) s.size cap0) (bts s)):=MadeB.kept hm0 (World.grownBy_alloc _ _ none)
  have B1:Hid (∀ j u,(Lib.byteCells [128])[j]?=some u→(w0.alloc (.cells #[.int .u8 128] 5)).cell? ((⟨w0.heap.size,0,none⟩:Addr).add j)=some u):=one_at w0 128
  have L1:Hid ((bts s).length+1≤4194304):=by show _≤_;rw [bts_length];omega
  clear hm0
  go_enter Tryz.func110,Tryz.ntmps110
  go_wp2_with (at_builtin;refine appB (unhide M1) (unhide B1) (unhide L1) rfl rfl (.tmp 8) (.tmp 9) rfl rfl rfl ?_;intro v2 w2 m2;have M2:=hide m2;clear m2)
  go_loopw [3] (fun u wr=>∃ j n g cap:Nat,n=s.size+1+j∧j≤zn s.size∧u=.slice (some ⟨g,0,none⟩) n cap∧MadeB w wr (.slice (some ⟨g,0,none⟩) n cap) (mid (bts s) j)) (fun u _=>s.size+65 - lenOf u)
  case atStart =>
   obtain⟨g,cap,e⟩:=form (n:=s.size+1) (unhide M2).1 (by rw [List.length_append,bts_length];rfl)
   have:=unhide M2
   rw [e] at this ⊢
   exact⟨0,_,g,cap,rfl,Nat.zero_le _,rfl,by simpa [mid] using this⟩
  case round =>
   obtain⟨j,n,g,cap,hn,hj,rfl,hm⟩:=hrel
   clear M1 B1 L1 M2 hr
   have hz:=zn_lt s.size
   have hl:=mid_length (bts s) j
   rw [bts_length,←hn] at hl
   have HL:Hid ((mid (bts s) j).length+1≤4194304):=by show _≤_;omega
   have hn2:n≤70000:=by omega
   by_cases hjz:j=zn s.size
   ·have t1:(((n:Int)+8) % 64 != 0)=false:=by
     have:=zn_mod s.size
     rw [←hjz,←hn] at this
     simp
     omega
    have E:Hid (padL (bts s)=mid (bts s) j++be 8 (8*s.size) 8):=by
     show _=_
     unfold padL
     rw [bts_length,hjz,be8 _ (by omega),List.append_assoc]
    have CA:=hide (appendNumber _ (mid (bts s) j) (8*s.size) 8 w wr (by omega) (by decide) (by omega) (MadeN.of hm))
    rw [show ((8*s.size:Nat):Int)=8*(s.size:Int) by omega] at CA
    have hbl:=be_length 8 (8*s.size) 8
    have HN:Hid (mid (bts s) j++be 8 (8*s.size) 8≠[]):=by
     intro e
     have:=congrArg List.length e
     rw [List.length_append,hbl] at this
     simp at this
    generalize mid (bts s) j++be 8 (8*s.size) 8=A at *
    clear hm hn hj hjz hl HL hz hbl
    go_wp2_with fail
    refine (unhide CA).mono ?_;rintro e w3 ⟨u,rfl,m3⟩
    obtain⟨b3,g3⟩:=m3
    rcases b3 with ⟨_,b3⟩ | b3
    ·exact absurd b3 (unhide HN)
    ·obtain⟨ga,ca,rfl⟩:=b3.form
     have CV:=run_back w3 _ _ _ b3
     unfold dec.str at CV
     have G:=hide g3
     clear b3 g3 CA
     go_wp2_with fail
     go_ret
     rw [unhide E]
     exact⟨rfl,unhide G⟩
   ·have t1:(((n:Int)+8) % 64 != 0)=true:=by
     have:=zn_least s.size j hj
     rw [←hn] at this
     simp
     omega
    have M1:Hid (MadeB w (wr.alloc (.cells #[.int .u8 0] 5)) (.slice (some ⟨g,0,none⟩) n cap) (mid (bts s) j)):=MadeB.kept hm (World.grownBy_alloc _ _ none)
    have B1:Hid (∀ j u,(Lib.byteCells [0])[j]?=some u→(wr.alloc (.cells #[.int .u8 0] 5)).cell? ((⟨wr.heap.size,0,none⟩:Addr).add j)=some u):=one_at wr 0
    have H:=hide (mid_succ (bts s) j)
    have HN:=hide hn
    have HJ:Hid (j+1≤zn s.size):=by show _≤_;omega
    have HZ:Hid (n<s.size+65):=by show _<_;omega
    clear hm hn hj hjz hl hz
    go_wp2_with (at_builtin;refine appB (unhide M1) (unhide B1) (unhide HL) rfl rfl (.tmp 16) (.tmp 17) rfl rfl rfl ?_;intro v2 w2 m2;have M2:=hide m2;clear m2)
    rw [←unhide H] at M2
    obtain⟨g2,cap2,e2⟩:=form (n:=n+1) (unhide M2).1 (by rw [mid_length,bts_length];have:=unhide HN;omega)
    subst e2
    go_roundw
    case rel=>exact⟨j+1,n+1,g2,cap2,by have:=unhide HN;omega,unhide HJ,rfl,unhide M2⟩
    case measure=>have:=unhide HZ;simp [lenOf];omega
 ·have hb:(60000:Int)<(s.size:Int):=by omega
  rw [show padT s=[] by unfold padT;rw [if_neg h6]]
  go_enter Tryz.func110,Tryz.ntmps110
  go_wp2
  go_ret
  exact⟨rfl,grown_refl _⟩
end Go.Proofs.YtnlllcgcaddhmaaGreatDoor.zj
namespace Go.Proofs.YtnlllcgcaddhmaaGreatDoor.zo
open Go.ChangeShapes Go.WideShapes Go.ChangeAt Go.RowKit
open sl (hide unhide ret_int ret_bool grown_refl grown_trans grown_drewN)
open za (Wd)
open zs (ints)
open zk (kL sL kc sc TabK TabS)
open zl (v8 Wd8 wd8_parts wd8_of set_new)
open zm (Bx blk blk_wd implSumBlock)
open zi (put4 be be4 be_length put4_length specPut MadeN appendNumber)
open ze (bts bts_length)
open zj (padT padL mid mid_length zn zn_mod zn_lt implSumPad)
open byt (run_back)
open dec (str)
set_option linter.unusedVariables false
def ini:Nat→List Int
 | 0=>[0,0,0,0,0,0,0,0]
 | k+1=>(ini k).set k (sL.getD k 0)
theorem ini_length:∀ k,(ini k).length=8
 | 0=>rfl
 | k+1=>by rw [ini,List.length_set,ini_length k]
theorem ini_all:ini 8=sL:=rfl
theorem sL_wd8:Wd8 sL:=⟨rfl,zk.sL_wd⟩
def stt (P:ByteArray):Nat→List Int
 | 0=>sL
 | k+1=>blk (stt P k) (P.extract (k*64) (k*64+64))
theorem stt_wd (P:ByteArray):∀ k,Wd8 (stt P k)
 | 0=>sL_wd8
 | k+1=>blk_wd (stt_wd P k) _
def out4 (N:List Int):Nat→List UInt8
 | 0=>[]
 | k+1=>out4 N k++put4 (N.getD k 0).toNat
theorem out4_length (N:List Int):∀ k,(out4 N k).length=4*k
 | 0=>rfl
 | k+1=>by rw [out4,List.length_append,out4_length N k,put4_length];omega
def padB (s:ByteArray):ByteArray:=⟨(padL (bts s)).toArray⟩
theorem pad_length (l:List UInt8):(padL l).length=l.length+1+zn l.length+8:=by
 unfold zj.padL
 rw [List.length_append,List.length_append,mid_length,put4_length,put4_length]
theorem padB_size (s:ByteArray):(padB s).size=s.size+1+zn s.size+8:=by
 show (padL (bts s)).toArray.size=_
 rw [List.size_toArray,pad_length,bts_length]
theorem padB_mod (s:ByteArray):(padB s).size % 64=0:=by
 rw [padB_size]
 have:=zn_mod s.size
 omega
theorem padB_le (s:ByteArray)(h:s.size≤60000):(padB s).size≤60080:=by
 rw [padB_size]
 have:=zn_lt s.size
 omega
def sumL (s:ByteArray):List UInt8:=out4 (stt (padB s) ((padB s).size / 64)) 8
def sumT (s:ByteArray):List UInt8:=if s.size≤60000 then sumL s else []
theorem infoW:(Tryz.prog.info? 120).map (·.size)=some 1:=by kernel_rfl
theorem index32 (C:Array Value)(k:Nat)(x:Int)(w:World)(h:k<8)(hc:C[k]?=some (.int .u32 x)):(Instr.index 146 (.agg C) (.int .i64 (k:Int))).run Tryz.prog w=.ok (.int .u32 x) w:=by
 obtain⟨i,hi,hs⟩:=Option.map_eq_some_iff.1 infoW
 simp [Instr.index,run_underlying Tryz.underlying146,run_underlying Tryz.underlying120,asIntOf,sizeOf,typeInfo,hi,hs,part,isAgg,hc,go_sem]
 intro h'
 omega
set_option maxRecDepth 100000 in
set_option maxHeartbeats 4000000 in
theorem implSum (s:ByteArray)(w:World)(hs:s.size≤1048576)(hK:TabK w)(hS:TabS w) :
  Calls Tryz.prog 64 #[.string s] w fun r w'=>r=.returned (str (sumT s))∧w.grownBy w' none:=by
 have HK:=hide hK
 have HS:=hide hS
 clear hK hS
 by_cases h6:s.size≤60000
 ·have hb:¬ (60000:Int)<(s.size:Int):=by omega
  rw [show sumT s=sumL s by unfold sumT;rw [if_pos h6]]
  have CP:=hide (fun w=>implSumPad s w hs)
  rw [show padT s=padL (bts s) by unfold zj.padT;rw [if_pos h6]] at CP
  rw [show str (padL (bts s))=.string (padB s) from rfl] at CP
  have hPm:=padB_mod s
  have hPl:=padB_le s h6
  have E:Hid (sumL s=out4 (stt (padB s) ((padB s).size / 64)) 8):=rfl
  generalize padB s=P at *
  generalize sumL s=X at *
  obtain⟨n,hn⟩:∃ n,n=P.size / 64:=⟨_,rfl⟩
  have tn:(P.size:Int) / 64=(n:Int):=by omega
  rw [←hn] at E
  have hn2:64*n=P.size:=by omega
  have HN:=hide hn2
  have I0:Hid (Bx (w.alloc (.cells (ints [0,0,0,0,0,0,0,0]).toArray 146)) w.heap.size (ini 0)∧w.grownBy (w.alloc (.cells (ints [0,0,0,0,0,0,0,0]).toArray 146)) none):=⟨Bx.new _ _,World.grownBy_alloc _ _ none⟩
  clear hn hn2 hPm
  go_enter Tryz.func64,Tryz.ntmps64
  go_wp2_with fail
  go_loopw [4,13] (fun _ t wr=>∃ k:Nat,k≤8∧t=.int .i64 k∧Bx wr w.heap.size (ini k)∧w.grownBy wr none) (fun _ t _=>8 - (intOf t).toNat)
  case atStart=>exact⟨0,by omega,rfl,(unhide I0).1,(unhide I0).2⟩
  case round =>
   obtain⟨k,hk,rfl,hB,hg⟩:=hrel
   clear I0
   have il:=ini_length k
   by_cases hlt:k<8
   ·have i0:(k:Int)<8:=by omega
    have C:=hide (zk.implSumStart (k:Int) wr ((unhide HS).kept hg))
    rw [show sc (k:Int)=sL.getD k 0 by unfold zk.sc;rw [if_pos (by omega)];rfl] at C
    have c0:=hB.cell k (by omega)
    have c1:=hB.frozen k
    have R:Hid (Bx (wr.setCell ⟨w.heap.size,k,none⟩ (.int .u32 (sL.getD k 0))) w.heap.size (ini (k+1))∧w.grownBy (wr.setCell ⟨w.heap.size,k,none⟩ (.int .u32 (sL.getD k 0))) none):=⟨hB.set k _,set_new hg (Nat.le_refl _) k _⟩
    generalize sL.getD k 0=x at *
    clear hB hg il
    go_wp2_with fail
    refine (unhide C).mono ?_;rintro r w' ⟨rfl,rfl⟩
    go_wp2_with fail
    go_roundw
    case rel=>exact⟨k+1,by omega,by go_num,(unhide R).1,(unhide R).2⟩
    case measure=>simp [intOf];omega
   ·have i0:¬ (k:Int)<8:=by omega
    have hk':k=8:=by omega
    subst hk'
    rw [ini_all] at hB
    have B:=hide hB
    have G:=hide hg
    clear hB hg il hlt hk
    go_wp2_with fail
    refine (unhide CP _).mono ?_;rintro r w1 ⟨rfl,g1⟩
    have B1:Hid (Bx w1 w.heap.size (stt P 0)):=(unhide B).kept g1
    have G1:=hide (grown_trans (r:=none) (unhide G) g1)
    clear g1 B G CP
    go_wp2_with fail
    go_loopw [6,26] (fun _ t wr=>∃ k:Nat,k≤n∧t=.int .i64 k∧Bx wr w.heap.size (stt P k)∧w.grownBy wr none) (fun _ t _=>n - (intOf t).toNat)
    case atStart=>exact⟨0,by omega,rfl,unhide B1,unhide G1⟩
    case round =>
     obtain⟨k,hk,rfl,hB,hg⟩:=hrel
     clear B1 G1
     have hN:=stt_wd P k
     by_cases hlt:k<n
     ·have i1:(k:Int)<(n:Int):=by omega
      have hnP:=unhide HN
      obtain⟨m1,e1⟩:∃ m1,m1=k*64:=⟨_,rfl⟩
      obtain⟨k1,e2⟩:∃ k1,k1=k+1:=⟨_,rfl⟩
      obtain⟨m2,e3⟩:∃ m2,m2=k*64+64:=⟨_,rfl⟩
      have j1:IntKind.i64.wrap ((k:Int)*64)=(m1:Int):=by rw [zb.wrap64 (by omega) (by omega)];omega
      have j2:IntKind.i64.wrap ((k:Int)+1)=(k1:Int):=by rw [zb.wrap64 (by omega) (by omega)];omega
      have j3:IntKind.i64.wrap ((k1:Int)*64)=(m2:Int):=by rw [zb.wrap64 (by omega) (by omega)];omega
      have b1:(m1:Int)≤(m2:Int):=by omega
      have b2:(m2:Int)≤(P.size:Int):=by omega
      have hsz:(P.extract m1 m2).size≤1048576:=by simp;omega
      have gd:=grown_trans (r:=none) hg (grown_drewN wr 1)
      have CB:=hide (implSumBlock (stt P k) (P.extract m1 m2) wr.drew hN hsz ((unhide HK).kept gd))
      have HR:Hid (stt P (k+1)=blk (stt P k) (P.extract m1 m2)):=by show _=_;rw [e1,e3];rfl
      have hN2:=blk_wd hN (P.extract m1 m2)
      obtain⟨a,b,c,d,e,f,g,i,hE,_⟩:=wd8_parts hN
      rw [hE] at CB hB hN2 HR
      obtain⟨a2,b2',c2,d2,e2',f2,g2,i2,hE2,_⟩:=wd8_parts hN2
      rw [hE2] at CB HR
      have CB':Hid (Calls Tryz.prog 111 #[.agg #[.int .u32 a,.int .u32 b,.int .u32 c,.int .u32 d,.int .u32 e,.int .u32 f,.int .u32 g,.int .u32 i],.string (P.extract m1 m2)] wr.drew fun r w'=>r=.returned (.agg #[.int .u32 a2,.int .u32 b2',.int .u32 c2,.int .u32 d2,.int .u32 e2',.int .u32 f2,.int .u32 g2,.int .u32 i2])∧wr.drew.grownBy w' none):=unhide CB
      obtain⟨q0,q1,q2,q3,q4,q5,q6,q7,q8⟩:=hB.parts
      have HB:=hide hB
      have HG:=hide hg
      have HE2:=hide e2
      clear hB hg hN hN2 hE hE2 CB gd e1 e2 e3 hnP hsz
      go_wp2_with fail
      go_region_with (go_at_call 111;refine (unhide CB').mono ?_;rintro r w2 ⟨rfl,g2'⟩;have G2:=hide (grown_trans (r:=none) (grown_drewN wr 1) g2');obtain⟨t0,t1,t2,t3,t4,t5,t6,t7,t8⟩:=((unhide HB).kept (unhide G2)).parts;clear g2')
      all_goals
       have B2:Hid (Bx ((((((((w2.setCell ⟨w.heap.size,0,none⟩ (.int .u32 a2)).setCell ⟨w.heap.size,1,none⟩ (.int .u32 b2')).setCell ⟨w.heap.size,2,none⟩ (.int .u32 c2)).setCell ⟨w.heap.size,3,none⟩ (.int .u32 d2)).setCell ⟨w.heap.size,4,none⟩ (.int .u32 e2')).setCell ⟨w.heap.size,5,none⟩ (.int .u32 f2)).setCell ⟨w.heap.size,6,none⟩ (.int .u32 g2)).setCell ⟨w.heap.size,7,none⟩ (.int .u32 i2)) w.heap.size [a2,b2',c2,d2,e2',f2,g2,i2]) :=
        ((((((((((unhide HB).kept (unhide G2)).set 0 a2).set 1 b2').set 2 c2).set 3 d2).set 4 e2').set 5 f2).set 6 g2).set 7 i2)
       have GG:=hide (set_new (set_new (set_new (set_new (set_new (set_new (set_new (set_new (grown_trans (r:=none) (unhide HG) (unhide G2)) (Nat.le_refl _) 0 (.int .u32 a2)) (Nat.le_refl _) 1 (.int .u32 b2')) (Nat.le_refl _) 2 (.int .u32 c2)) (Nat.le_refl _) 3 (.int .u32 d2)) (Nat.le_refl _) 4 (.int .u32 e2')) (Nat.le_refl _) 5 (.int .u32 f2)) (Nat.le_refl _) 6 (.int .u32 g2)) (Nat.le_refl _) 7 (.int .u32 i2))
       clear t0 t1 t2 t3 t4 t5 t6 t7 t8 q0 q1 q2 q3 q4 q5 q6 q7 q8 CB'
       go_wp2_with fail
       go_roundw
       case rel=>exact⟨k+1,by omega,by have:=unhide HE2;first | go_num | (rw [this]),by rw [unhide HR];exact unhide B2,unhide GG⟩
       case measure=>have:=unhide HE2;simp [intOf];omega
     ·have i1:¬ (k:Int)<(n:Int):=by omega
      have hk':k=n:=by omega
      subst hk'
      have HW:=hide hN
      obtain⟨a,b,c,d,e,f,g,i,hE,_⟩:=wd8_parts hN
      rw [hE] at hB E HW
      obtain⟨q0,q1,q2,q3,q4,q5,q6,q7,q8⟩:=hB.parts
      have M0:Hid (MadeN w wr (.slice none 0 0) (out4 [a,b,c,d,e,f,g,i] 0)):=⟨.inl ⟨rfl,rfl⟩,hg⟩
      clear hB hg hN hE hlt hk HN
      go_wp2_with fail
      go_loopw [7,9,40] (fun u _ t wr=>∃ k:Nat,k≤8∧t=.int .i64 k∧MadeN w wr u (out4 [a,b,c,d,e,f,g,i] k)) (fun _ _ t _=>8 - (intOf t).toNat)
      case atStart=>exact⟨0,by omega,rfl,unhide M0⟩
      case round =>
       obtain⟨k,hk,rfl,hm⟩:=hrel
       clear M0
       have ol:=out4_length [a,b,c,d,e,f,g,i] k
       by_cases hlt:k<8
       ·have i2:(k:Int)<8:=by omega
        have hw:Wd ([a,b,c,d,e,f,g,i].getD k 0):=by
         rw [List.getD,List.getElem?_eq_getElem (show k < [a,b,c,d,e,f,g,i].length from hlt)]
         exact (unhide HW).2 _ (List.getElem_mem _)
        have ix:=index32 #[.int .u32 a,.int .u32 b,.int .u32 c,.int .u32 d,.int .u32 e,.int .u32 f,.int .u32 g,.int .u32 i] k ([a,b,c,d,e,f,g,i].getD k 0) wr hlt (by
         rcases (show k=0∨k=1∨k=2∨k=3∨k=4∨k=5∨k=6∨k=7 by omega) with rfl | rfl | rfl | rfl | rfl | rfl | rfl | rfl <;> rfl)
        have HO:Hid (out4 [a,b,c,d,e,f,g,i] (k+1)=out4 [a,b,c,d,e,f,g,i] k++put4 ([a,b,c,d,e,f,g,i].getD k 0).toNat):=rfl
        generalize [a,b,c,d,e,f,g,i].getD k 0=x at *
        obtain⟨xn,rfl⟩:=Int.eq_ofNat_of_zero_le hw.1
        have hx:xn<4294967296:=by have:=hw.2;omega
        have hx2:(xn:Int)<4294967296:=by omega
        have CA:=hide (appendNumber _ _ xn 4 w wr (by omega) (by decide) (by omega) hm)
        rw [be4] at CA
        have HO':Hid (out4 [a,b,c,d,e,f,g,i] (k+1)=out4 [a,b,c,d,e,f,g,i] k++put4 xn):=unhide HO
        clear hm hw ol HO q0 q1 q2 q3 q4 q5 q6 q7 q8
        go_wp2_with fail
        refine (unhide CA).mono ?_;rintro r w3 ⟨u3,rfl,m3⟩
        have M3:=hide m3
        clear m3 CA
        go_wp2_with fail
        go_roundw
        case rel=>exact⟨k+1,by omega,by go_num,by rw [unhide HO'];exact unhide M3⟩
        case measure=>simp [intOf];omega
       ·have i2:¬ (k:Int)<8:=by omega
        have hk':k=8:=by omega
        subst hk'
        obtain⟨b3,g3⟩:=hm
        rcases b3 with ⟨_,b3⟩ | b3
        ·rw [b3] at ol
         simp at ol
        ·obtain⟨ga,ca,eu⟩:=b3.form
         have CV:=run_back wr _ _ _ b3
         rw [eu] at CV
         unfold dec.str at CV
         have G:=hide g3
         clear b3 g3 ol q0 q1 q2 q3 q4 q5 q6 q7 q8
         go_wp2_with fail
         go_ret
         rw [unhide E]
         exact⟨rfl,unhide G⟩
 ·have hb:(60000:Int)<(s.size:Int):=by omega
  rw [show sumT s=[] by unfold sumT;rw [if_neg h6]]
  go_enter Tryz.func64,Tryz.ntmps64
  go_wp2
  go_ret
  exact⟨rfl,grown_refl _⟩
end Go.Proofs.YtnlllcgcaddhmaaGreatDoor.zo
namespace Go.Proofs.YtnlllcgcaddhmaaGreatDoor.zn
open Go.ChangeShapes Go.WideShapes Go.ChangeAt Go.RowKit
open sl (hide unhide ret_int ret_bool grown_refl grown_trans grown_drewN)
open za (Wd rotI g4)
open zs (ints Made)
open zc (wds wds_length wall getD_wd form)
open zk (kL kc)
open zl (rnd v8 Wd8 wd8_parts wd8_of rnd_wd set_new s0 s1 ch mj na ne not_max)
open zm (Bx Rd Inv Inv.kept Inv.set Inv.set8 rr rr_wd ad ad_length ad_getD ad_wd blk)
set_option linter.unusedVariables false
theorem rotZ (x n:Int)(w:World)(hx:Wd x)(h1:1≤n)(h2:n≤31) :
  Calls Tryz.prog 174 #[.int .u32 x,.int .u64 n] w fun e w'=>e=.returned (.int .u32 (rotI x n.toNat))∧w'=w:=by
 obtain⟨m,rfl⟩:=Int.eq_ofNat_of_zero_le (show 0≤n by omega)
 exact zb.specRot x m w hx (by omega) (by omega)
theorem t_eq (e f g h k x:Int):((h+bits .xor .u32 (bits .xor .u32 (rotI e 6) (rotI e 11)) (rotI e 25)+bits .xor .u32 (bits .and .u32 e f) (bits .and .u32 (bits .xor .u32 e 4294967295) g)+k) % 4294967296+x) % 4294967296=(h+s1 e+ch e f g+k+x) % 4294967296:=by
 rw [not_max]
 show ((h+s1 e+ch e f g+k) % 4294967296+x) % 4294967296=_
 omega
theorem na_eq (a b c e f g h k x:Int):((h+s1 e+ch e f g+k+x) % 4294967296+(s0 a+mj a b c) % 4294967296) % 4294967296=na a b c e f g h ((k+x) % 4294967296):=by
 unfold zl.na
 omega
theorem ne_eq (d e f g h k x:Int):(d+(h+s1 e+ch e f g+k+x) % 4294967296) % 4294967296=ne d e f g h ((k+x) % 4294967296):=by
 unfold zl.ne
 omega
set_option maxRecDepth 100000 in
set_option maxHeartbeats 4000000 in
theorem specSumBlock (L:List Int)(s:ByteArray)(w:World)(hL:Wd8 L)(hs:s.size≤1048576) :
  Calls Tryz.prog 131 #[v8 L,.string s] w fun r w'=>r=.returned (v8 (blk L s))∧w.grownBy w' none:=by
 have H8:=hide hL
 obtain⟨a,b,c,d,e,f,g,i,rfl,ha,hb,hc,hd,he,hf,hg,hi⟩:=wd8_parts hL
 clear ha hb hc hd he hf hg hi hL
 by_cases h64:s.size=64
 ·have hb:((s.size:Int) != 64)=false:=by simp [h64]
  have E:Hid (blk [a,b,c,d,e,f,g,i] s=ad (rr [a,b,c,d,e,f,g,i] (wds s 64) 64) [a,b,c,d,e,f,g,i] 8):=by show _=_;unfold zm.blk;rw [if_pos h64]
  have CW:=hide (fun w=>zc.specSumWords s w hs)
  rw [show wall s=wds s 64 by unfold zc.wall;rw [if_pos h64]] at CW
  have CT:=hide (fun w=>zk.specTable w)
  show Calls Tryz.prog 131 #[.agg #[.int .u32 a,.int .u32 b,.int .u32 c,.int .u32 d,.int .u32 e,.int .u32 f,.int .u32 g,.int .u32 i],.string s] w fun r w'=>r=.returned (v8 (blk [a,b,c,d,e,f,g,i] s))∧w.grownBy w' none
  clear h64
  go_enter Tryz.func131,Tryz.ntmps131
  go_wp2_with fail
  refine (unhide CW _).mono ?_;rintro r w0 ⟨u,rfl,m1⟩
  obtain⟨B0,B1,g1⟩:=zm.start (w:=w) (w1:=w0) (L:=[a,b,c,d,e,f,g,i]) (Z:=[0,0,0,0,0,0,0,0]) m1.2
  obtain⟨gb,cap,hu⟩:=form m1 (by rw [wds_length];decide)
  rw [wds_length] at hu
  subst hu
  have R1:Rd w0 gb (wds s 64):=by
   intro j hj
   have h1:=m1.1
   rw [wds_length] at h1 hj
   rw [h1.cellAt j (by omega)]
   have hl:=wds_length s 64
   simp [zs.ints,hl,hj]
  have B0':=hide B0
  have B1':=hide B1
  have R1':=hide R1
  have G1':=hide g1
  clear m1 CW B0 B1 R1 g1
  go_wp2_with fail
  refine (unhide CT _).mono ?_;rintro r w1 ⟨rfl,hw1⟩
  have gt:w0.grownBy w1 none:=by rw [hw1];exact World.grownBy_alloc _ _ _
  have B0:=(unhide B0').kept gt
  have B1:=(unhide B1').kept gt
  have R1:=(unhide R1').kept gt
  have g1:=grown_trans (r:=none) (unhide G1') gt
  have RK:Rd w1 w0.heap.size kL:=fun j hj=>by rw [hw1];exact zk.cell_k w0 j hj
  have lk:w0.heap.size<w1.heap.size:=by rw [hw1,World.size_alloc];omega
  have l0:=B0.lt
  have l1:=B1.lt
  have lg:gb<w1.heap.size:=World.block_lt_of_cell? w1 _ (R1 0 (by rw [wds_length];decide))
  obtain⟨p0,p1,p2,p3,p4,p5,p6,p7,_⟩:=B0.parts
  obtain⟨kb,hkb⟩:∃ kb,kb=w0.heap.size:=⟨_,rfl⟩
  rw [←hkb] at RK lk ⊢
  have I1:Hid (Inv w (w1.alloc (.cells (ints [a,b,c,d,e,f,g,i]).toArray 146)) w1.heap.size (w.heap.size+1) w.heap.size gb kb [a,b,c,d,e,f,g,i] [0,0,0,0,0,0,0,0] [a,b,c,d,e,f,g,i] (wds s 64) kL) :=
   have ga:=World.grownBy_alloc w1 (.cells (ints [a,b,c,d,e,f,g,i]).toArray 146) none
   ⟨grown_trans g1 ga,Bx.new _ _,B1.kept ga,B0.rd.kept ga,R1.kept ga,RK.kept ga⟩
  have hsz:=g1.size
  have N0:Hid (w.heap.size≤w1.heap.size):=by show _≤_;omega
  have N1:Hid (w.heap.size+1≠w1.heap.size):=by show _≠_;omega
  have N2:Hid (w.heap.size≠w1.heap.size):=by show _≠_;omega
  have N3:Hid (gb≠w1.heap.size):=by show _≠_;omega
  have N4:Hid (kb≠w1.heap.size):=by show _≠_;omega
  clear B0 B1 g1 R1 RK B0' B1' R1' G1' CT hsz l0 l1 lg lk gt hw1 hkb
  go_wp2_with fail
  go_loopw [8,9,10] (fun t _ _ wr=>∃ k:Nat,k≤64∧t=.int .i64 k∧Inv w wr w1.heap.size (w.heap.size+1) w.heap.size gb kb (rr [a,b,c,d,e,f,g,i] (wds s 64) k) [0,0,0,0,0,0,0,0] [a,b,c,d,e,f,g,i] (wds s 64) kL) (fun t _ _ _=>64 - (intOf t).toNat)
  case atStart=>exact⟨0,by omega,rfl,unhide I1⟩
  case round =>
   obtain⟨k,hk,rfl,hI⟩:=hrel
   clear I1 p0 p1 p2 p3 p4 p5 p6 p7
   have hN:=rr_wd (L:=[a,b,c,d,e,f,g,i]) (ws:=wds s 64) (unhide H8) k
   by_cases hlt:k<64
   ·have i0:(k:Int)<64:=by omega
    have x0:=hI.wd k (by rw [wds_length];exact hlt)
    have x1:=hI.tb k hlt
    have HR:Hid (rr [a,b,c,d,e,f,g,i] (wds s 64) (k+1)=rnd (rr [a,b,c,d,e,f,g,i] (wds s 64) k) ((kL.getD k 0+(wds s 64).getD k 0) % 4294967296)):=rfl
    have HI:=hide hI
    obtain⟨a',b',c',d',e',f',g',i',hE,ha,hb',hc,hd,he,hf,hg,hi⟩:=wd8_parts hN
    rw [hE] at HI HR
    have HR':Hid (rr [a,b,c,d,e,f,g,i] (wds s 64) (k+1)=[na a' b' c' e' f' g' i' ((kL.getD k 0+(wds s 64).getD k 0) % 4294967296),a',b',c',ne d' e' f' g' i' ((kL.getD k 0+(wds s 64).getD k 0) % 4294967296),e',f',g']):=unhide HR
    obtain⟨q0,q1,q2,q3,q4,q5,q6,q7,q8⟩:=(unhide HI).now.parts
    have RO:=hide rotZ
    rw [←na_eq,←ne_eq] at HR'
    generalize kL.getD k 0=x at *
    generalize (wds s 64).getD k 0=y at *
    clear hI hN hE HR hb' hc hd hf hg hi
    go_wp2_with fail
    go_quiet ((go_at_call 174;exact Calls.quiet_of_same (unhide RO _ _ _ (by assumption) (by decide) (by decide))))
    generalize hTT:((i'+bits .xor .u32 (bits .xor .u32 (rotI e' 6) (rotI e' 11)) (rotI e' 25)+bits .xor .u32 (bits .and .u32 e' f') (bits .and .u32 (bits .xor .u32 e' 4294967295) g')+x) % 4294967296+y) % 4294967296=T
    rw [←t_eq,hTT] at HR'
    have HI2:=hide ((unhide HI).kept (grown_drewN wr nq))
    clear hTT HI q0 q1 q2 q3 q4 q5 q6 q7 q8 x0 x1
    generalize wr.drewN nq=W at *
    obtain⟨q0,q1,q2,q3,q4,q5,q6,q7,q8⟩:=(unhide HI2).now.parts
    go_wp2_with fail
    go_quiet ((go_at_call 174;exact Calls.quiet_of_same (unhide RO _ _ _ (by assumption) (by decide) (by decide))))
    generalize hUU:(bits .xor .u32 (bits .xor .u32 (rotI a' 2) (rotI a' 13)) (rotI a' 22)+bits .xor .u32 (bits .xor .u32 (bits .and .u32 a' b') (bits .and .u32 a' c')) (bits .and .u32 b' c')) % 4294967296=U
    rw [show (s0 a'+mj a' b' c') % 4294967296=U from hUU] at HR'
    have IN:=hide (Inv.set8 (a':=(T+U) % 4294967296) (b':=a') (c':=b') (d':=c') (e':=(d'+T) % 4294967296) (f':=e') (i':=f') (m':=g') ((unhide HI2).kept (grown_drewN W nq)) (unhide N0) (unhide N1) (unhide N2) (unhide N3) (unhide N4))
    have HI3:=hide ((unhide HI2).kept (grown_drewN W nq))
    clear hUU HI2 q0 q1 q2 q3 q4 q5 q6 q7 q8 RO ha he
    generalize W.drewN nq=V at *
    obtain⟨q0,q1,q2,q3,q4,q5,q6,q7,q8⟩:=(unhide HI3).now.parts
    go_wp2_with fail
    go_roundw
    case rel=>exact⟨k+1,by omega,by go_num,by rw [unhide HR'];exact unhide IN⟩
    case measure=>simp [intOf];omega
   ·have i0:¬ (k:Int)<64:=by omega
    have hk':k=64:=by omega
    subst hk'
    have HN8:=hide hN
    generalize rr [a,b,c,d,e,f,g,i] (wds s 64) 64=N at *
    have HI:=hide hI
    clear hI hlt hk hN
    go_wp2_with fail
    go_loopw [11] (fun t wr=>∃ k:Nat,k≤8∧t=.int .i64 k∧Inv w wr w1.heap.size (w.heap.size+1) w.heap.size gb kb (ad N [a,b,c,d,e,f,g,i] k) [0,0,0,0,0,0,0,0] [a,b,c,d,e,f,g,i] (wds s 64) kL) (fun t _=>8 - (intOf t).toNat)
    case atStart=>exact⟨0,by omega,rfl,unhide HI⟩
    case round =>
     obtain⟨k,hk,rfl,hI⟩:=hrel
     clear HI
     have hal:=ad_length N [a,b,c,d,e,f,g,i] k
     rw [(unhide HN8).1] at hal
     by_cases hlt:k<8
     ·have i1:(k:Int)<8:=by omega
      have c0:=hI.now.cell k (by omega)
      rw [ad_getD N _ k k (Nat.le_refl _)] at c0
      have c1:=hI.st k hlt
      have c2:=hI.now.frozen k
      have ST:=hide (fun (wr':World) (g':wr.grownBy wr' none)=>(hI.kept g').set (unhide N0) (unhide N1) (unhide N2) (unhide N3) (unhide N4) k ((N.getD k 0 + [a,b,c,d,e,f,g,i].getD k 0) % 4294967296))
      have HA:Hid (ad N [a,b,c,d,e,f,g,i] (k+1)=(ad N [a,b,c,d,e,f,g,i] k).set k ((N.getD k 0 + [a,b,c,d,e,f,g,i].getD k 0) % 4294967296)):=rfl
      generalize [a,b,c,d,e,f,g,i].getD k 0=y at *
      generalize N.getD k 0=x at *
      have R:=hide (unhide ST (wr.drewN 1) (grown_drewN _ _))
      clear hI hal ST
      go_wp2
      go_region
      all_goals
       go_wp2
       go_roundw
       case rel=>exact⟨k+1,by omega,by go_num,by rw [unhide HA];exact unhide R⟩
       case measure=>simp [intOf];omega
     ·have i1:¬ (k:Int)<8:=by omega
      have hk':k=8:=by omega
      subst hk'
      have hA:=ad_wd (L:=[a,b,c,d,e,f,g,i]) (unhide HN8) 8
      obtain⟨a2,b2,c2,d2,e2,f2,g2,i2,hE2,_⟩:=wd8_parts hA
      rw [hE2] at hI
      have EE:=unhide E
      rw [hE2] at EE
      have E2:=hide EE
      obtain⟨q0,q1,q2,q3,q4,q5,q6,q7,q8⟩:=hI.now.parts
      obtain⟨r0,r1,r2,r3,r4,r5,r6,r7,r8⟩:=hI.res.parts
      have G:=hide hI.grown
      have hrn:¬ w.heap.size+1=w1.heap.size:=unhide N1
      clear hA hE2 hI EE E hal
      go_wp2
      refine bodyPost_ret (v:=.agg #[.int .u32 a2,.int .u32 b2,.int .u32 c2,.int .u32 d2,.int .u32 e2,.int .u32 f2,.int .u32 g2,.int .u32 i2]) (by simp [results,Tryz.results131,go_sem,r0,r1,r2,r3,r4,r5,r6,r7]) rfl ⟨by rw [unhide E2];rfl,?_⟩
      refine set_new (set_new (set_new (set_new (set_new (set_new (set_new (set_new (unhide G) (by omega) _ _) (by omega) _ _) (by omega) _ _) (by omega) _ _) (by omega) _ _) (by omega) _ _) (by omega) _ _) (by omega) _ _
 ·have hb:((s.size:Int) != 64)=true:=by simp;omega
  rw [show blk [a,b,c,d,e,f,g,i] s=[a,b,c,d,e,f,g,i] by unfold zm.blk;rw [if_neg h64]]
  show Calls Tryz.prog 131 #[.agg #[.int .u32 a,.int .u32 b,.int .u32 c,.int .u32 d,.int .u32 e,.int .u32 f,.int .u32 g,.int .u32 i],.string s] w fun r w'=>r=.returned (.agg #[.int .u32 a,.int .u32 b,.int .u32 c,.int .u32 d,.int .u32 e,.int .u32 f,.int .u32 g,.int .u32 i])∧w.grownBy w' none
  clear h64
  go_enter Tryz.func131,Tryz.ntmps131
  go_wp2
  refine bodyPost_ret (v:=.agg #[.int .u32 a,.int .u32 b,.int .u32 c,.int .u32 d,.int .u32 e,.int .u32 f,.int .u32 g,.int .u32 i]) (by simp [results,Tryz.results131,go_sem]) rfl ⟨rfl,?_⟩
  exact grown_trans (World.grownBy_alloc _ _ none) (World.grownBy_alloc _ _ none)
end Go.Proofs.YtnlllcgcaddhmaaGreatDoor.zn
namespace Go.Proofs.YtnlllcgcaddhmaaGreatDoor.zp
open Go.ChangeShapes Go.WideShapes Go.ChangeAt Go.RowKit
open sl (hide unhide ret_int ret_bool grown_refl grown_trans grown_drewN)
open za (Wd)
open zs (ints)
open zo (ini ini_length ini_all stt stt_wd out4 out4_length padB padB_mod padB_le sumL sumT)
open zn (specSumBlock)
open zk (kL sL kc sc TabK TabS)
open zl (v8 Wd8 wd8_parts wd8_of set_new)
open zm (Bx blk blk_wd)
open zi (put4 be be4 be_length put4_length specPut MadeN appendNumber)
open ze (bts bts_length)
open zj (padT padL mid mid_length specSumPad)
open byt (run_back)
open dec (str)
set_option linter.unusedVariables false
set_option maxRecDepth 100000 in
set_option maxHeartbeats 4000000 in
theorem specSum (s:ByteArray)(w:World)(hs:s.size≤1048576) :
  Calls Tryz.prog 77 #[.string s] w fun r w'=>r=.returned (str (sumT s))∧w.grownBy w' none:=by
 by_cases h6:s.size≤60000
 ·have hb:¬ (60000:Int)<(s.size:Int):=by omega
  rw [show sumT s=sumL s by unfold zo.sumT;rw [if_pos h6]]
  have CP:=hide (fun w=>specSumPad s w hs)
  rw [show padT s=padL (bts s) by unfold zj.padT;rw [if_pos h6]] at CP
  rw [show str (padL (bts s))=.string (padB s) from rfl] at CP
  have hPm:=padB_mod s
  have hPl:=padB_le s h6
  have E:Hid (sumL s=out4 (stt (padB s) ((padB s).size / 64)) 8):=rfl
  generalize padB s=P at *
  generalize sumL s=X at *
  obtain⟨n,hn⟩:∃ n,n=P.size / 64:=⟨_,rfl⟩
  have tn:(P.size:Int) / 64=(n:Int):=by omega
  rw [←hn] at E
  have hn2:64*n=P.size:=by omega
  have HN:=hide hn2
  have I0:Hid (Bx (w.alloc (.cells (ints [0,0,0,0,0,0,0,0]).toArray 146)) w.heap.size (ini 0)∧w.grownBy (w.alloc (.cells (ints [0,0,0,0,0,0,0,0]).toArray 146)) none):=⟨Bx.new _ _,World.grownBy_alloc _ _ none⟩
  clear hn hn2 hPm
  go_enter Tryz.func77,Tryz.ntmps77
  go_wp2_with fail
  go_loopw [4] (fun t wr=>∃ k:Nat,k≤8∧t=.int .i64 k∧Bx wr w.heap.size (ini k)∧w.grownBy wr none) (fun t _=>8 - (intOf t).toNat)
  case atStart=>exact⟨0,by omega,rfl,(unhide I0).1,(unhide I0).2⟩
  case round =>
   obtain⟨k,hk,rfl,hB,hg⟩:=hrel
   clear I0
   have il:=ini_length k
   by_cases hlt:k<8
   ·have i0:(k:Int)<8:=by omega
    have C:=hide (zk.specSumStart (k:Int) wr)
    rw [show sc (k:Int)=sL.getD k 0 by unfold zk.sc;rw [if_pos (by omega)];rfl] at C
    have c0:=hB.cell k (by omega)
    have c1:=hB.frozen k
    have RR:Hid (∀ w',wr.grownBy w' none→(Bx (w'.setCell ⟨w.heap.size,k,none⟩ (.int .u32 (sL.getD k 0))) w.heap.size (ini (k+1))∧w.grownBy (w'.setCell ⟨w.heap.size,k,none⟩ (.int .u32 (sL.getD k 0))) none)∧(∃ v,w'.cell? ⟨w.heap.size,k,none⟩=some v)∧w'.frozen? ⟨w.heap.size,k,none⟩=false):=fun w' g'=>⟨⟨(hB.kept g').set k _,set_new (grown_trans hg g') (Nat.le_refl _) k _⟩,⟨_,(hB.kept g').cell k (by omega)⟩,(hB.kept g').frozen k⟩
    generalize sL.getD k 0=x at *
    clear hB hg il c0 c1
    go_wp2_with fail
    refine (unhide C).mono ?_;rintro r w' ⟨rfl,gC⟩
    have R:=hide (unhide RR w' gC).1
    obtain⟨vv,c0⟩:=(unhide RR w' gC).2.1
    have c1:=(unhide RR w' gC).2.2
    clear gC RR
    go_wp2_with fail
    go_roundw
    case rel=>exact⟨k+1,by omega,by go_num,(unhide R).1,(unhide R).2⟩
    case measure=>simp [intOf];omega
   ·have i0:¬ (k:Int)<8:=by omega
    have hk':k=8:=by omega
    subst hk'
    rw [ini_all] at hB
    have B:=hide hB
    have G:=hide hg
    clear hB hg il hlt hk
    go_wp2_with fail
    refine (unhide CP _).mono ?_;rintro r w1 ⟨rfl,g1⟩
    have B1:Hid (Bx w1 w.heap.size (stt P 0)):=(unhide B).kept g1
    have G1:=hide (grown_trans (r:=none) (unhide G) g1)
    clear g1 B G CP
    go_wp2_with fail
    go_loopw [6] (fun t wr=>∃ k m1:Nat,m1=k*64∧k≤n∧t=.int .i64 m1∧Bx wr w.heap.size (stt P k)∧w.grownBy wr none) (fun t _=>P.size - (intOf t).toNat)
    case atStart=>exact⟨0,0,rfl,by omega,rfl,unhide B1,unhide G1⟩
    case round =>
     obtain⟨k,m1,e1,hk,rfl,hB,hg⟩:=hrel
     clear B1 G1
     have hnP:=unhide HN
     have hN:=stt_wd P k
     by_cases hlt:k<n
     ·have i1:(m1:Int)<(P.size:Int):=by omega
      obtain⟨m2,e3⟩:∃ m2,m2=k*64+64:=⟨_,rfl⟩
      have j1:IntKind.i64.wrap ((m1:Int)+64)=(m2:Int):=by rw [zb.wrap64 (by omega) (by omega)];omega
      have b1:(m1:Int)≤(m2:Int):=by omega
      have b2:(m2:Int)≤(P.size:Int):=by omega
      have hsz:(P.extract m1 m2).size≤1048576:=by simp;omega
      have CB:=hide (specSumBlock (stt P k) (P.extract m1 m2) wr.drew hN hsz)
      have HR:Hid (stt P (k+1)=blk (stt P k) (P.extract m1 m2)):=by show _=_;rw [e1,e3];rfl
      have hN2:=blk_wd hN (P.extract m1 m2)
      obtain⟨a,b,c,d,e,f,g,i,hE,_⟩:=wd8_parts hN
      rw [hE] at CB hB hN2 HR
      obtain⟨a2,b2',c2,d2,e2',f2,g2,i2,hE2,_⟩:=wd8_parts hN2
      rw [hE2] at CB HR
      have CB':Hid (Calls Tryz.prog 131 #[.agg #[.int .u32 a,.int .u32 b,.int .u32 c,.int .u32 d,.int .u32 e,.int .u32 f,.int .u32 g,.int .u32 i],.string (P.extract m1 m2)] wr.drew fun r w'=>r=.returned (.agg #[.int .u32 a2,.int .u32 b2',.int .u32 c2,.int .u32 d2,.int .u32 e2',.int .u32 f2,.int .u32 g2,.int .u32 i2])∧wr.drew.grownBy w' none):=unhide CB
      obtain⟨q0,q1,q2,q3,q4,q5,q6,q7,q8⟩:=hB.parts
      have HB:=hide hB
      have HG:=hide hg
      have HE1:=hide e1
      have HE3:=hide e3
      clear hB hg hN hN2 hE hE2 CB e1 e3 hnP hsz
      go_wp2_with fail
      go_region_with (go_at_call 131;refine (unhide CB').mono ?_;rintro r w2 ⟨rfl,g2'⟩;have G2:=hide (grown_trans (r:=none) (grown_drewN wr 1) g2');obtain⟨t0,t1,t2,t3,t4,t5,t6,t7,t8⟩:=((unhide HB).kept (unhide G2)).parts;clear g2')
      all_goals
       have B2:Hid (Bx ((((((((w2.setCell ⟨w.heap.size,0,none⟩ (.int .u32 a2)).setCell ⟨w.heap.size,1,none⟩ (.int .u32 b2')).setCell ⟨w.heap.size,2,none⟩ (.int .u32 c2)).setCell ⟨w.heap.size,3,none⟩ (.int .u32 d2)).setCell ⟨w.heap.size,4,none⟩ (.int .u32 e2')).setCell ⟨w.heap.size,5,none⟩ (.int .u32 f2)).setCell ⟨w.heap.size,6,none⟩ (.int .u32 g2)).setCell ⟨w.heap.size,7,none⟩ (.int .u32 i2)) w.heap.size [a2,b2',c2,d2,e2',f2,g2,i2]) :=
        ((((((((((unhide HB).kept (unhide G2)).set 0 a2).set 1 b2').set 2 c2).set 3 d2).set 4 e2').set 5 f2).set 6 g2).set 7 i2)
       have GG:=hide (set_new (set_new (set_new (set_new (set_new (set_new (set_new (set_new (grown_trans (r:=none) (unhide HG) (unhide G2)) (Nat.le_refl _) 0 (.int .u32 a2)) (Nat.le_refl _) 1 (.int .u32 b2')) (Nat.le_refl _) 2 (.int .u32 c2)) (Nat.le_refl _) 3 (.int .u32 d2)) (Nat.le_refl _) 4 (.int .u32 e2')) (Nat.le_refl _) 5 (.int .u32 f2)) (Nat.le_refl _) 6 (.int .u32 g2)) (Nat.le_refl _) 7 (.int .u32 i2))
       clear t0 t1 t2 t3 t4 t5 t6 t7 t8 q0 q1 q2 q3 q4 q5 q6 q7 q8 CB'
       go_wp2_with fail
       go_roundw
       case rel=>exact⟨k+1,m2,by have:=unhide HE3;omega,by omega,by have h1:=unhide HE1;have h3:=unhide HE3;first | rfl | (congr 1;omega),by rw [unhide HR];exact unhide B2,unhide GG⟩
       case measure=>have h1:=unhide HE1;have h3:=unhide HE3;simp [intOf];omega
     ·have i1:¬ (m1:Int)<(P.size:Int):=by omega
      have hk':k=n:=by omega
      subst hk'
      have HW:=hide hN
      obtain⟨a,b,c,d,e,f,g,i,hE,_⟩:=wd8_parts hN
      rw [hE] at hB E HW
      obtain⟨q0,q1,q2,q3,q4,q5,q6,q7,q8⟩:=hB.parts
      have HB:=hide hB
      have HG:=hide hg
      clear hB hg hN hE hlt hk HN e1 hnP
      go_wp2_with fail
      go_loopw [7,8] (fun u t wr=>∃ k:Nat,k≤8∧t=.int .i64 k∧u=.string ⟨(out4 [a,b,c,d,e,f,g,i] k).toArray⟩∧Bx wr w.heap.size [a,b,c,d,e,f,g,i]∧w.grownBy wr none) (fun _ t _=>8 - (intOf t).toNat)
      case atStart=>exact⟨0,by omega,rfl,rfl,unhide HB,unhide HG⟩
      case round =>
       obtain⟨k,hk,rfl,rfl,hB,hg⟩:=hrel
       clear HB HG q0 q1 q2 q3 q4 q5 q6 q7 q8
       have ol:=out4_length [a,b,c,d,e,f,g,i] k
       by_cases hlt:k<8
       ·have i2:(k:Int)<8:=by omega
        have hw:Wd ([a,b,c,d,e,f,g,i].getD k 0):=by
         rw [List.getD,List.getElem?_eq_getElem (show k < [a,b,c,d,e,f,g,i].length from hlt)]
         exact (unhide HW).2 _ (List.getElem_mem _)
        have c0:=hB.cell k hlt
        have HO:Hid (out4 [a,b,c,d,e,f,g,i] (k+1)=out4 [a,b,c,d,e,f,g,i] k++put4 ([a,b,c,d,e,f,g,i].getD k 0).toNat):=rfl
        generalize [a,b,c,d,e,f,g,i].getD k 0=x at *
        obtain⟨xn,rfl⟩:=Int.eq_ofNat_of_zero_le hw.1
        have hx:xn<4294967296:=by have:=hw.2;omega
        have HO':Hid (out4 [a,b,c,d,e,f,g,i] (k+1)=out4 [a,b,c,d,e,f,g,i] k++put4 xn):=unhide HO
        have CA:=hide (fun w=>specPut xn w hx)
        have hY:(put4 xn).length≤4:=Nat.le_refl _
        have hO:(out4 [a,b,c,d,e,f,g,i] k).length≤32:=by omega
        unfold dec.str at CA
        generalize put4 xn=Y at *
        generalize out4 [a,b,c,d,e,f,g,i] k=O at *
        have HB:=hide hB
        have HG:=hide hg
        clear hB hg hw ol HO hx
        go_wp2_with fail
        refine (unhide CA _).mono ?_;rintro r w3 ⟨rfl,g3⟩
        have B3:=hide ((unhide HB).kept g3)
        have G3:=hide (grown_trans (r:=none) (unhide HG) g3)
        clear g3 CA
        go_wp2_with fail
        go_roundw
        case rel=>exact⟨k+1,by omega,by go_num,by rw [unhide HO'];rfl,unhide B3,unhide G3⟩
        case measure=>simp [intOf];omega
       ·have i2:¬ (k:Int)<8:=by omega
        have hk':k=8:=by omega
        subst hk'
        have G:=hide hg
        clear hB hg ol hlt hk
        go_wp2_with fail
        go_ret
        rw [unhide E]
        exact⟨rfl,unhide G⟩
 ·have hb:(60000:Int)<(s.size:Int):=by omega
  rw [show sumT s=[] by unfold zo.sumT;rw [if_neg h6]]
  go_enter Tryz.func77,Tryz.ntmps77
  go_wp2
  go_ret
  exact⟨rfl,grown_refl _⟩
end Go.Proofs.YtnlllcgcaddhmaaGreatDoor.zp
