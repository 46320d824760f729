/- The cursor that the laws draw their inputs with: it answers numbers within their bounds and writes into its own block alone; what is drawn is left open. -/
import Derived.Laws.BitsLemmas
import Derived.Deep.LoopGhost
import Derived.Deep.CutRange
import Derived.Deep.CutBlock
import Derived.Test.YtddmmoehlabkiaaGreatDoorJXLr
import Derived.Test.YtddmmoehlabkiaaGreatDoorJXFc
namespace Go.Proofs.YtddmmoehlabkiaaGreatDoor
set_option linter.unusedVariables false
set_option maxRecDepth 100000
open Go.ChangeShapes Go.WideShapes Go.ChangeAt Go.RowKit
open sl (Sl ints grown_trans' Own)
open css (OwnS)
open cf (Box)
open sl (qH qU qT)
set_option maxHeartbeats 4000000
namespace draw
theorem and255 (n:Int):bits .and .i64 n 255=n % 256:=by
 have h255:(BitVec.ofInt 64 255).toNat=2 ^ 8 - 1:=by decide
 have key:(BitVec.ofInt 64 n &&& BitVec.ofInt 64 255).toNat=(n % ((2 ^ 64:Nat):Int)).toNat % 2 ^ 8:=by
  rw [BitVec.toNat_and,BitVec.toNat_ofInt,h255,Nat.and_two_pow_sub_one_eq_mod]
 show IntKind.i64.wrap ((BitVec.ofInt 64 n &&& BitVec.ofInt 64 255).toNat:Nat)=n % 256;rw [key,IntKind.wrap_i64];omega
theorem and255_bd (n:Int):0<=bits .and .i64 n 255/\bits .and .i64 n 255<=255:=by
 rw [and255];omega
def Cur (w:World)(c:Nat):Prop :=
 ∃ (a:Option Addr) (n cap i:Nat) (h:Int),n<=1048576/\i<=n/\w.heap[c]?=some (.cells #[.slice a n cap,.int .i64 i,.int .i64 h] 87 (0,0)) /\
  (n=0∨∃ b off,a=some ⟨b,off,none⟩/\b<c/\∀ j,j<n->∃ x:Nat,x<=255/\w.cell? ⟨b,off+j,none⟩=some (.int .u8 (x:Int)))
theorem Cur.lt {w:World}{c:Nat}(h:Cur w c):c<w.heap.size:=by
 obtain⟨a,n,cap,i,h,_,_,hb,_⟩:=h;exact (Array.getElem?_eq_some_iff.1 hb).1
theorem Cur.kept {w w':World}{c:Nat}{row:Option Nat}(h:Cur w c)(g:w.grownBy w' row)(hr:∀ r,row=some r->c<r):Cur w' c:=by
 have hlt:=h.lt;obtain⟨a,n,cap,i,h,hn,hi,hb,hx⟩:=h;refine⟨a,n,cap,i,h,hn,hi,(g.block c hlt (fun e=>by have:=hr c e.symm;omega)).trans hb,?_⟩;rcases hx with hx | ⟨b,off,e,hbc,hx⟩
 ·exact .inl hx
 ·refine .inr ⟨b,off,e,hbc,fun j hj=>?_⟩;obtain⟨x,hx1,hx2⟩:=hx j hj;exact⟨x,hx1,g.cell hx2 (fun e=>by have:=hr b e.symm;omega)⟩
theorem cells3 {w:World}{c:Nat}{x y z:Value}{t:TypeId}(h:w.heap[c]?=some (.cells #[x,y,z] t (0,0))) :
  w.cell? ⟨c,0,none⟩=some x/\w.cell? ⟨c,1,none⟩=some y/\w.cell? ⟨c,2,none⟩=some z/\∀ j,w.frozen? ⟨c,j,none⟩=false:=by
 refine⟨by simp [World.cell?,h],by simp [World.cell?,h],by simp [World.cell?,h],fun j=>by simp [World.frozen?,h]⟩
theorem set3_1 {w:World}{c:Nat}{x y z u:Value}{t:TypeId}(h:w.heap[c]?=some (.cells #[x,y,z] t (0,0))):(w.setCell ⟨c,1,none⟩ u).heap[c]?=some (.cells #[x,u,z] t (0,0)):=by
 simp [World.setCell,Array.getElem?_modify,h]
theorem set3_2 {w:World}{c:Nat}{x y z u:Value}{t:TypeId}(h:w.heap[c]?=some (.cells #[x,y,z] t (0,0))):(w.setCell ⟨c,2,none⟩ u).heap[c]?=some (.cells #[x,y,u] t (0,0)):=by
 simp [World.setCell,Array.getElem?_modify,h]
theorem grown_drew (w:World)(q:Nat)(r:Option Nat):w.grownBy (w.drewN q) r:=⟨rfl,rfl,rfl,Nat.le_refl _,fun _ _ _=>rfl⟩
theorem grown_one (w:World)(c q:Nat)(u:Value):w.grownBy ((w.setCell ⟨c,2,none⟩ u).drewN q) (some c) :=
 grown_trans' (sl.grown_setCell w c 2 u) (grown_drew _ q _)
theorem grown_two (w:World)(c q:Nat)(u u':Value):w.grownBy (((w.setCell ⟨c,2,none⟩ u).drewN q).setCell ⟨c,1,none⟩ u') (some c) :=
 grown_trans' (grown_one w c q u) (sl.grown_setCell _ c 1 u')
theorem old_cell {w w':World}{c b off n:Nat}(g:w.grownBy w' (some c))(hbc:b<c)(hx:∀ j,j<n->∃ x:Nat,x<=255/\w.cell? ⟨b,off+j,none⟩=some (.int .u8 (x:Int))) :
  ∀ j,j<n->∃ x:Nat,x<=255/\w'.cell? ⟨b,off+j,none⟩=some (.int .u8 (x:Int)):=by
 intro j hj;obtain⟨x,hx1,hx2⟩:=hx j hj;exact⟨x,hx1,g.cell hx2 (fun e=>by injection e with e;exact absurd e (by show b≠c;omega))⟩
theorem cur_one {w:World}{c:Nat}{a:Option Addr}{n cap i:Nat}{h:Int}(q:Nat)(h':Int)(hn:n<=1048576)(hi:i<=n)(hb:w.heap[c]?=some (.cells #[.slice a n cap,.int .i64 i,.int .i64 h] 87 (0,0)))
  (hx:n=0∨∃ b off,a=some ⟨b,off,none⟩/\b<c/\∀ j,j<n->∃ x:Nat,x<=255/\w.cell? ⟨b,off+j,none⟩=some (.int .u8 (x:Int))) :
  Cur ((w.setCell ⟨c,2,none⟩ (.int .i64 h')).drewN q) c:=by
 refine⟨a,n,cap,i,h',hn,hi,set3_2 hb,?_⟩;rcases hx with h0 | ⟨b,off,e,hbc,hx⟩
 ·exact .inl h0
 ·exact .inr ⟨b,off,e,hbc,old_cell (grown_one w c q _) hbc hx⟩
theorem Cur.drew {w:World}{c:Nat}(h:Cur w c)(q:Nat):Cur (w.drewN q) c:=h.kept (grown_drew w q none) nofun
theorem cur_two {w:World}{c:Nat}{a:Option Addr}{n cap i:Nat}{h:Int}(q:Nat)(h':Int)(hn:n<=1048576)(hi:i+1<=n)(hb:w.heap[c]?=some (.cells #[.slice a n cap,.int .i64 i,.int .i64 h] 87 (0,0)))
  (hx:n=0∨∃ b off,a=some ⟨b,off,none⟩/\b<c/\∀ j,j<n->∃ x:Nat,x<=255/\w.cell? ⟨b,off+j,none⟩=some (.int .u8 (x:Int))) :
  Cur (((w.setCell ⟨c,2,none⟩ (.int .i64 h')).drewN q).setCell ⟨c,1,none⟩ (.int .i64 ((i:Int)+1))) c:=by
 have e1:((w.setCell ⟨c,2,none⟩ (.int .i64 h')).drewN q).heap[c]?=some (.cells #[.slice a n cap,.int .i64 i,.int .i64 h'] 87 (0,0)):=set3_2 hb;refine⟨a,n,cap,i+1,h',hn,hi,?_,?_⟩
 ·rw [show ((i+1:Nat):Int)=(i:Int)+1 from by omega];exact set3_1 e1
 ·rcases hx with h0 | ⟨b,off,e,hbc,hx⟩
  ·exact .inl h0
  ·exact .inr ⟨b,off,e,hbc,old_cell (grown_two w c q _ _) hbc hx⟩
theorem byte (c:Nat)(w:World)(hc:Cur w c) :
  Calls Tryz.prog 88 #[.pointer (some ⟨c,0,none⟩)] w fun e w'=>∃ x:Int,e=.returned (.int .i64 x)/\0<=x/\x<=255/\Cur w' c/\w.grownBy w' (some c):=by
 obtain⟨a,n,cap,i,h,hn,hi,hb,hx⟩:=hc;obtain⟨c0,c1,c2,cf⟩:=cells3 hb;have f1:=cf 1;have f2:=cf 2;have HB:=qH hb;have HX:=qH hx;clear hb hx cf;by_cases hlt:i<n
 ·rcases qU HX with h0 | ⟨b,off,rfl,hbc,hx⟩
  ·omega
  ·have HXX:=qH hx;obtain⟨x,hx1,hx2⟩:=hx i hlt;have hlt':(i:Int)<(n:Int):=by omega
   clear hx HX;go_enter Tryz.func88,Tryz.ntmps88;go_wp2
   go_quiet (fail)
   go_wp2
   go_quiet (fail)
   go_wp2
   go_quiet (fail)
   go_wp2;go_ret;exact⟨_,rfl,(and255_bd _).1,(and255_bd _).2,cur_two _ _ hn hlt (qU HB) (.inr ⟨b,off,rfl,hbc,qU HXX⟩),grown_two w c _ _ _⟩
 ·have hlt':¬ (i:Int)<(n:Int):=by omega
  go_enter Tryz.func88,Tryz.ntmps88;go_wp2
  go_quiet (fail)
  go_wp2
  go_quiet (fail)
  go_wp2;go_ret;exact⟨_,rfl,(and255_bd _).1,(and255_bd _).2,Cur.drew (cur_one _ _ hn hi (qU HB) (qU HX)) _,grown_trans' (grown_one w c _ _) (grown_drew _ _ _)⟩
theorem below (c:Nat)(n:Int)(w:World)(hc:Cur w c)(n0:0<n)(n1:n<=1073741824) :
  Calls Tryz.prog 41 #[.pointer (some ⟨c,0,none⟩),.int .i64 n] w fun e w'=>∃ x:Int,e=.returned (.int .i64 x)/\0<=x/\x<n/\Cur w' c/\w.grownBy w' (some c):=by
 have HC:=qH hc;clear hc;have m0:¬ n<=0:=by omega
 by_cases h:n<=256
 ·go_enter Tryz.func41,Tryz.ntmps41;go_wp2_with fail;refine (byte c _ (qU HC)).mono ?_;rintro e w1 ⟨x,rfl,x0,x1,hc1,g1⟩;have HC1:=qH hc1;have G1:=qH g1;clear hc1 g1;go_wp2_with fail;go_ret;exact⟨_,rfl,Int.emod_nonneg _ (by omega),Int.emod_lt_of_pos _ n0,qU HC1,qU G1⟩
 ·go_enter Tryz.func41,Tryz.ntmps41;go_wp2_with fail;refine (byte c _ (qU HC)).mono ?_;rintro e w1 ⟨x,rfl,x0,x1,hc1,g1⟩;have HC1:=qH hc1;have G1:=qH g1;clear hc1 g1 HC;go_wp2_with fail;refine (byte c _ (qU HC1)).mono ?_;rintro e w2 ⟨y,rfl,y0,y1,hc2,g2⟩;have HC2:=qH hc2;have G2:=qH (grown_trans' (qU G1) g2);clear hc2 g2 HC1 G1;go_wp2_with fail;refine (byte c _ (qU HC2)).mono ?_;rintro e w3 ⟨z,rfl,z0,z1,hc3,g3⟩;have HC3:=qH hc3;have G3:=qH (grown_trans' (qU G2) g3);clear hc3 g3 HC2 G2;go_wp2_with fail;refine (byte c _ (qU HC3)).mono ?_;rintro e w4 ⟨q,rfl,q0,q1,hc4,g4⟩;have HC4:=qH hc4;have G4:=qH (grown_trans' (qU G3) g4)
  clear hc4 g4 HC3 G3;go_wp2_with fail;go_ret;exact⟨_,rfl,Int.emod_nonneg _ (by omega),Int.emod_lt_of_pos _ n0,qU HC4,qU G4⟩
theorem once (c:Nat)(n:Int)(w:World)(hc:Cur w c)(n0:0<n)(n1:n<=1073741824) :
  Calls Tryz.prog 51 #[.pointer (some ⟨c,0,none⟩),.int .i64 n] w fun e w'=>∃ b:Bool,e=.returned (.bool b)/\Cur w' c/\w.grownBy w' (some c):=by
 have HC:=qH hc;clear hc;go_enter Tryz.func51,Tryz.ntmps51;go_wp2_with fail;refine (below c n _ (qU HC) n0 n1).mono ?_;rintro e w1 ⟨x,rfl,x0,x1,hc1,g1⟩;have HC1:=qH hc1;have G1:=qH g1;clear hc1 g1;go_wp2_with fail;go_ret;exact⟨_,rfl,qU HC1,qU G1⟩
def I64 (x:Int):Prop:=(Lit.int .i64 x).wf=true
theorem pickInt (c:Nat)(v:Value)(L:List Int)(w:World)(hc:Cur w c)(hL:0<L.length)(hL1:L.length<=1048576)(hv:Sl w v L)(hb:∀ k,v.ownBlock=some k->c<k) :
  Calls Tryz.prog 101 #[.pointer (some ⟨c,0,none⟩),v] w fun e w'=>∃ x:Int,e=.returned (.int .i64 x)/\x∈L/\Cur w' c/\w.grownBy w' (some c):=by
 have hv':=hv;obtain⟨a,cap,rfl,ha⟩:=hv;rcases ha with rfl | ⟨b,off,rfl,hbs,hcb⟩
 ·simp at hL
 ·have HC:=qH hc;have HB:=qH hcb;have hbc:c<b:=hb b rfl;clear hc hcb hv' hb;go_enter Tryz.func101,Tryz.ntmps101;go_wp2_with fail;refine (below c _ _ (qU HC) (by omega) (by omega)).mono ?_;rintro e w1 ⟨x,rfl,x0,x1,hc1,g1⟩;obtain⟨j,rfl⟩:=Int.eq_ofNat_of_zero_le x0;have hj:j<L.length:=by omega
  have c1:w1.cell? ⟨b,off+j,none⟩=some (.int .i64 (L.getD j 0)):=g1.cell (qU HB j hj) (fun e=>by injection e with e;exact absurd e (by show b≠c;omega));have hm:L.getD j 0∈L:=by rw [show L.getD j 0=L[j] by simp [hj]];exact List.getElem_mem hj
  generalize L.getD j 0=y at *;have HM:=qH hm;have HC1:=qH hc1;have G1:=qH g1;clear hc1 g1 hm HB HC;go_wp2_with fail;go_ret;exact⟨_,rfl,qU HM,qU HC1,qU G1⟩
def Bs (w:World)(a:Option Addr)(n:Nat):Prop:=n=0∨∃ b off,a=some ⟨b,off,none⟩/\b<w.heap.size/\∀ j,j<n->∃ x:Nat,x<=255/\w.cell? ⟨b,off+j,none⟩=some (.int .u8 (x:Int))
theorem Bs.below {w w':World}{a:Option Addr}{n:Nat}(h:Bs w a n)(hb:Below w.heap.size w w'):Bs w' a n:=by
 rcases h with h | ⟨b,off,e,hl,hx⟩
 ·exact .inl h
 ·refine .inr ⟨b,off,e,Nat.lt_of_lt_of_le hl hb.size,fun j hj=>?_⟩;obtain⟨x,hx1,hx2⟩:=hx j hj;exact⟨x,hx1,(hb.cell (p:=⟨b,off+j,none⟩) hl).trans hx2⟩
theorem of_rowB {w:World}{a:Option Addr}{len cap:Nat}{zs:List Int}
  (h:(a=none/\len=0/\cap=0/\zs=[])∨∃ x,a=some x/\len<=cap/\cap<=maxLen/\zs.length=cap/\(∀ i,i<zs.length->w.cell? (x.add i)=some (.int .u8 (zs.getD i 0)))/\∀ n∈zs,(Lit.int .u8 n).wf=true) :
  Bs w a len:=by
 rcases h with ⟨rfl,rfl,rfl,rfl⟩ | ⟨x,rfl,hl,hm,hz,hc,hw⟩
 ·exact .inl rfl
 ·by_cases h0:len=0
  ·exact .inl h0
  ·obtain⟨b,off,spot⟩:=x;have h1:=hc 0 (by omega);have hs:spot=none:=by simpa [Addr.add] using World.cell?_spot h1
   subst hs;refine .inr ⟨b,off,rfl,World.block_lt_of_cell? w _ h1,fun j hj=>?_⟩;have h2:=hc j (by omega);rw [Addr.add_lit] at h2;have hm:zs.getD j 0∈zs:=by rw [show zs.getD j 0=zs[j]'(by omega) by simp [show j<zs.length by omega]];exact List.getElem_mem _
   have h3:=hw _ hm;have h4:0<=zs.getD j 0/\zs.getD j 0<=255:=by simpa [Lit.wf,IntKind.min,IntKind.max,IntKind.signed,IntKind.bits] using h3
   exact⟨(zs.getD j 0).toNat,by omega,by rw [h2];congr 2;omega⟩
theorem new_cur (w:World)(a:Option Addr)(n cap:Nat)(h:Int)(hn:n<=1048576)(hB:Bs w a n):Cur (w.alloc (.cells #[.slice a n cap,.int .i64 0,.int .i64 h] 87)) w.heap.size:=by
 refine⟨a,n,cap,0,h,hn,Nat.zero_le _,heap_alloc_new w _,?_⟩;rcases hB with h0 | ⟨b,off,e,hl,hx⟩
 ·exact .inl h0
 ·refine .inr ⟨b,off,e,hl,fun j hj=>?_⟩;obtain⟨x,hx1,hx2⟩:=hx j hj;exact⟨x,hx1,(sl.qA w _ none).cell hx2 nofun⟩
theorem newCur (a:Option Addr)(n cap:Nat)(w:World)(hn:n<=1048576)(hB:Bs w a n) :
  Calls Tryz.prog 21 #[.slice a n cap] w fun e w'=>e=.returned (.pointer (some ⟨w.heap.size,0,none⟩))/\Cur w' w.heap.size/\w.grownBy w' none:=by
 have HB:=qH hB;clear hB;go_enter Tryz.func21,Tryz.ntmps21;go_wp2;go_loop [3,4] (fun h i=>∃ (k:Nat) (H:Int),k<=n/\i=.int .i64 k/\h=.int .i64 H) (fun _ i=>n - (intOf i).toNat)
 case atStart=>exact⟨0,_,Nat.zero_le _,rfl,rfl⟩
 case round =>
  obtain⟨k,H,hk,rfl,rfl⟩:=hrel;by_cases hlt:k<n
  ·have hi':(k:Int)<(n:Int):=by omega
   by_cases h4:k<4000
   ·have h4':(k:Int)<4000:=by omega
    rcases qU HB with h0 | ⟨b,off,rfl,hl,hx⟩
    ·omega
    ·obtain⟨x,hx1,hx2⟩:=hx k hlt;clear hx;go_wp2
     go_round
     case rel=>exact⟨k+1,_,by omega,by go_num,rfl⟩
     case measure=>simp [intOf];omega
   ·have h4':decide ((k:Int)<4000)=false:=decide_eq_false (by omega);go_wp2;go_ret;exact⟨rfl,new_cur _ _ _ _ _ hn (qU HB),sl.qA _ _ _⟩
  ·have hi':decide ((k:Int)<(n:Int))=false:=decide_eq_false (by omega);go_wp2;go_ret;exact⟨rfl,new_cur _ _ _ _ _ hn (qU HB),sl.qA _ _ _⟩
def edges:List Int:=[0,25,-25,24,-24,9223372036854775807,-9223372036854775808]
theorem edges_wf:∀ x∈edges,I64 x:=by
 intro x hx;simp only [edges,List.mem_cons,List.not_mem_nil,or_false] at hx;unfold I64;rcases hx with rfl | rfl | rfl | rfl | rfl | rfl | rfl <;> decide
theorem own_alloc (w:World)(L:List Int)(hL:L.length<=maxLen):(w.alloc (.cells (ints L).toArray 3)).ownsRow w.heap.size 3 1 (.slice (some ⟨w.heap.size,0,none⟩) L.length L.length) L.length (ints L) :=
 World.ownsRow_lit w (ints L).toArray L.length (Nat.le_refl _) hL (by simp [ints])
theorem edges_own (w:World):(w.alloc (.cells #[.int .i64 0,.int .i64 25,.int .i64 (-25),.int .i64 24,.int .i64 (-24),.int .i64 9223372036854775807,.int .i64 (-9223372036854775808)] 3)).ownsRow w.heap.size 3 1 (.slice (some ⟨w.heap.size,0,none⟩) 7 7) 7 (ints edges) :=
 own_alloc w edges (by decide)
theorem grown_alloc_some (w:World)(o:Obj)(r:Option Nat):w.grownBy (w.alloc o) r:=sl.qA w o r
theorem i64_of {x:Int}(h1 : -1073741825<=x)(h2:x<=1073741825):I64 x:=by
 unfold I64;simp [Lit.wf,IntKind.min,IntKind.max,IntKind.signed,IntKind.bits];omega
theorem lit (c:Nat)(n:Int)(w:World)(hc:Cur w c)(n0:0<n)(n1:n<=1073741824) :
  Calls Tryz.prog 141 #[.pointer (some ⟨c,0,none⟩),.int .i64 n] w fun e w'=>∃ x:Int,e=.returned (.int .i64 x)/\I64 x/\Cur w' c/\w.grownBy w' (some c):=by
 have HC:=qH hc;clear hc;go_enter Tryz.func141,Tryz.ntmps141;go_wp2_with fail;refine (once c _ _ (qU HC) (by decide) (by decide)).mono ?_;rintro e w1 ⟨b1,rfl,hc1,g1⟩;have HC1:=qH hc1;have G1:=qH g1;clear hc1 g1 HC;cases b1
 ·go_wp2_with fail;refine (below c n _ (qU HC1) n0 n1).mono ?_;rintro e w2 ⟨x,rfl,x0,x1,hc2,g2⟩;have HC2:=qH hc2;have G2:=qH (grown_trans' (qU G1) g2);clear hc2 g2 HC1 G1;go_wp2_with fail;refine (once c _ _ (qU HC2) (by decide) (by decide)).mono ?_;rintro e w3 ⟨b3,rfl,hc3,g3⟩;have HC3:=qH hc3;have G3:=qH (grown_trans' (qU G2) g3);clear hc3 g3 HC2 G2;cases b3
  ·go_wp2_with fail;go_ret;exact⟨_,rfl,i64_of (by omega) (by omega),qU HC3,qU G3⟩
  ·go_wp2_with fail;go_ret;exact⟨_,rfl,i64_of (by omega) (by omega),qU HC3,qU G3⟩
 ·go_wp2_with fail;refine (pickInt c _ edges _ ((qU HC1).kept (grown_alloc_some _ _ none) nofun) (by decide) (by decide) (sl.Sl.of_own (edges_own w1)) (fun k e=>?_)).mono ?_
  ·cases e
   exact (qU HC1).lt
  rintro e w2 ⟨x,rfl,hx,hc2,g2⟩;have HX:=qH (edges_wf x hx);have HC2:=qH hc2;have G2:=qH (grown_trans' (grown_trans' (qU G1) (grown_alloc_some _ _ _)) g2);clear hc2 g2 hx HC1 G1;go_wp2_with fail;go_ret;exact⟨_,rfl,qU HX,qU HC2,qU G2⟩
theorem grown_new {a b d:World}{r:Nat}(h:a.grownBy b none)(k:b.grownBy d (some r))(hr:a.heap.size<=r):a.grownBy d none :=
 ⟨k.os.trans h.os,k.tape.trans h.tape,k.output.trans h.output,Nat.le_trans h.size k.size,fun i hi _=>(k.block i (Nat.lt_of_lt_of_le hi h.size) (fun e=>by injection e with e;omega)).trans (h.block i hi nofun)⟩
theorem big (a:Option Addr)(n cap:Nat)(w:World)(hn:n<=9223372036854775807):Calls Tryz.prog 6 #[.slice a n cap] w fun e w'=>e=.returned (.bool (decide (1048576<n)))/\w'=w:=by
 by_cases h:1048576<n
 ·rw [decide_eq_true h];have h':(1048576:Int)<(n:Int):=by omega
  go_enter Tryz.func6,Tryz.ntmps6;go_wp2;go_ret;exact⟨rfl,rfl⟩
 ·rw [decide_eq_false h];have h':¬ (1048576:Int)<(n:Int):=by omega
  go_enter Tryz.func6,Tryz.ntmps6;go_wp2;go_ret;exact⟨rfl,rfl⟩
end draw
namespace dcls
open draw (Cur)
def MadeC (c:Nat)(w w1:World)(v:Value)(M:List Int):Prop:=w1.ownsRow w.heap.size 3 1 v M.length (ints M)/\w.grownBy w1 (some c)/\Cur w1 c
theorem MadeC.form {c:Nat}{w w1:World}{v:Value}{M:List Int}(h:MadeC c w w1 v M):∃ a cap,v=.slice a M.length cap:=by
 obtain⟨a,cap,e,_⟩:=Sl.of_own h.1;exact⟨a,cap,e⟩
theorem MadeC.turn {c:Nat}{w wr w1:World}{v:Value}{M:List Int}(h:MadeC c w wr v M)(hc:c<w.heap.size)(g:wr.grownBy w1 (some c))(hcur:Cur w1 c):MadeC c w w1 v M:=by
 refine⟨h.1.kept g (.inr (fun e=>?_)),grown_trans' h.2.1 g,hcur⟩;have:=(h.1.lt c e).1;omega
theorem MadeC.start (c:Nat)(w:World)(h:Cur w c):MadeC c w (w.alloc (.cells #[] 3)) (.slice (some ⟨w.heap.size,0,none⟩) 0 0) [] :=
 ⟨(app.made_nil w).1,sl.qA _ _ _,h.kept (sl.qA w _ none) nofun⟩
theorem MadeC.grow {c:Nat}{w wr w1:World}{v v':Value}{M:List Int}{y:Int}{o:Obj}(h:MadeC c w wr v M)(hc:c<w.heap.size)
  (hown':w1.ownsRow w.heap.size 3 1 v' (M.length+1) (ints M++[.int .i64 y])) (hgrow:(wr.alloc o).grownBy w1 v.ownBlock):MadeC c w w1 v' (M++[y]):=by
 obtain⟨hown,hg,hcur⟩:=h;refine⟨?_,⟨hgrow.os.trans hg.os,hgrow.tape.trans hg.tape,hgrow.output.trans hg.output,?_,fun k hk hne=>?_⟩,?_⟩
 ·have e1:(M++[y]).length=M.length+1:=by simp
  have e2:ints (M++[y])=ints M++[.int .i64 y]:=by simp [ints]
  rw [e1,e2];exact hown'
 ·have h1:=hgrow.size;have h2:=hg.size;simp at h1;omega
 ·have h2:=hg.size;rw [hgrow.block k (by simp;omega) ?_,Below.heap_alloc _ _ _ (by omega)]
  ·exact hg.block k hk hne
  ·intro e;have:=(hown.lt k e.symm).1;omega
 ·refine (hcur.kept (sl.qA wr o none) nofun).kept hgrow (fun r e=>?_);have:=(hown.lt r e).1;omega
theorem appendC {ops:Array Oper}{rest:List Oper}{o:Oper}{a:Act}{Q:Exit->Act->World->Prop}{c:Nat}{w wr:World}{v:Value}{M:List Int}{y:Int}
  (hm:MadeC c w wr v M) (hc:c<w.heap.size) (hM:M.length<=4194304) (hgd:o.guard=none) (s x:Operand)
  (ho:o.op=.call { callee:=.builtin .append,args:=#[s,x],argTypes:=#[37,37] }) (hs:a.eval s=v) (hx:a.eval x=.slice (some ⟨wr.heap.size,0,none⟩) 1 1)
  (h:∀ v' w1,MadeC c w w1 v' (M++[y])->wpList Tryz.prog ops Q rest (a.put o.dst v') w1) :
  wpList Tryz.prog ops Q (o::rest) a (wr.alloc (.cells #[.int .i64 y] 3)):=by
 obtain⟨i0,hi,hz0,hz1,hz2⟩:=info_parts sl.info3;have hown:=hm.1;have hsz:=hm.2.1.size;refine wpList_append_own _ hgd s x 37 ho w.heap.size 3 i0 (.int .i64 0) 1 8 Tryz.underlying37 hi hz0 hz1 hz2 rfl (by decide) v M.length (ints M) hs (hown.alloc _) ⟨wr.heap.size,0,none⟩ 1 1 [.int .i64 y] hx rfl ?_ ?_ ?_ ?_ ?_ ?_
 ·intro j u hj
  match j,hj with
  | 0,hj=>simp at hj;subst hj;simp [Addr.add]
 ·intro u hu;simp at hu;subst hu;rfl
 ·unfold maxLen;omega
 ·omega
 ·simp;omega
 ·intro v' w1 hown' hgrow _;exact h v' w1 (hm.grow hc hown' hgrow)
def slLen:Value->Nat
 | .slice _ n _=>n
 | _=>0
theorem clause (c:Nat)(n most:Int)(w:World)(hc:Cur w c)(n0:0<n)(n1:n<=1073741824)(m0:0<=most)(m1:most<=6) :
  Calls Tryz.prog 102 #[.pointer (some ⟨c,0,none⟩),.int .i64 n,.int .i64 most] w fun e w'=>∃ v L,e=.returned v/\L.length<=49/\MadeC c w w' v L:=by
 have hlt:=hc.lt;have START:=qH (MadeC.start c w hc);clear hc;go_enter Tryz.func102,Tryz.ntmps102;go_wp2_with fail;refine (draw.below c _ _ (qU START).2.2 (by omega) (by omega)).mono ?_;rintro e w1 ⟨x,rfl,x0,x1,hc1,g1⟩;obtain⟨K,rfl⟩:=Int.eq_ofNat_of_zero_le x0;have M1:=qH ((qU START).turn hlt g1 hc1);have hK:K<=6:=by omega
 clear hc1 g1 START x0 x1;go_wp2_with fail;go_loopw [7,9] (fun u i wr=>∃ (k:Nat) (M:List Int),k<=K/\M.length=k/\i=.int .i64 k/\MadeC c w wr u M) (fun _ i _=>K - (intOf i).toNat)
 case atStart=>exact⟨0,[],Nat.zero_le _,rfl,rfl,qU M1⟩
 case round =>
  obtain⟨k,M,hk,hM,rfl,hm⟩:=hrel;clear M1;have HM:=qH hm;clear hm;by_cases hlt':k<K
  ·have hi:(k:Int)<(K:Int):=by omega
   go_wp2_with fail;refine (draw.lit c n _ (qU HM).2.2 n0 n1).mono ?_;rintro e w2 ⟨y,rfl,hy,hc2,g2⟩;have HM2:=qH ((qU HM).turn hlt g2 hc2);clear hy hc2 g2 HM;go_wp2_with (at_builtin;refine appendC (qU HM2) hlt (by omega) rfl _ _ rfl rfl rfl ?_);intro v' w3 R;clear HM2;go_wp2;go_roundw
   case rel=>exact⟨k+1,M++[y],by omega,by rw [List.length_append,hM];rfl,by go_num,R⟩
   case measure=>simp [intOf];omega
  ·have hi:¬ (k:Int)<(K:Int):=by omega
   go_wp2_with fail;refine (draw.once c _ _ (qU HM).2.2 (by decide) (by decide)).mono ?_;rintro e w2 ⟨b,rfl,hc2,g2⟩;have HM2:=qH ((qU HM).turn hlt g2 hc2);clear hc2 g2 HM;cases b
   ·go_wp2_with fail;go_ret;exact⟨_,M,rfl,by omega,qU HM2⟩
   ·have hM9:M.length<=49:=by omega
    clear hM hk hi hlt';go_wp2_with fail;go_loopw [7] (fun u wr=>∃ (N:List Int),N.length<=49/\MadeC c w wr u N) (fun u _=>49 - slLen u)
    case atStart=>exact⟨M,hM9,qU HM2⟩
    case round =>
     obtain⟨N,hN,hm⟩:=hrel;clear HM2 hM9;obtain⟨a,cap,rfl⟩:=hm.form;have HM3:=qH hm;clear hm;go_wp2_with fail;refine (draw.below c _ _ (qU HM3).2.2 (by decide) (by decide)).mono ?_;rintro e w3 ⟨x,rfl,x0,x1,hc3,g3⟩;have HM4:=qH ((qU HM3).turn hlt g3 hc3);clear hc3 g3 HM3;by_cases h48:(N.length:Int)<48+x
     ·go_wp2_with (at_builtin;refine appendC (qU HM4) hlt (by omega) rfl _ _ rfl rfl rfl ?_);intro v' w4 R;clear HM4;obtain⟨a',cap',rfl⟩:=R.form;have HR:=qH R;have hl:(N++[1]).length=N.length+1:=by simp
      clear R;go_wp2;go_roundw
      case rel=>exact⟨N++[1],by omega,qU HR⟩
      case measure=>simp [slLen];omega
     ·go_wp2_with fail;go_ret;exact⟨_,N,rfl,hN,qU HM4⟩
end dcls
namespace dcn
open draw (Cur Bs)
open dcls (MadeC MadeC.start appendC)
theorem ownS_turn {lo hi c:Nat}{w w1:World}{v:Value}{M:List (List Int)}(h:OwnS lo hi w v M)(hc:c<lo)(g:w.grownBy w1 (some c)):OwnS lo hi w1 v M:=by
 have kp:∀ (t:TypeId) (p:Value) (n:Nat) (xs:List Value),w.ownsRow lo t 1 p n xs->w1.ownsRow lo t 1 p n xs:=fun t p n xs h=>h.kept g (by
  cases e:p.ownBlock with
  | none=>exact .inl rfl
  | some k=>exact .inr (fun e'=>by cases e';have:=(h.lt _ e).1;omega))
 obtain⟨D,e,ho,hb,hin,hp⟩:=h;exact⟨D,e,kp _ _ _ _ ho,hb,fun p hp=>⟨kp _ _ _ _ (hin p hp).1,(hin p hp).2⟩,hp⟩
def MidD (c:Nat)(w wr:World)(b:Nat)(n:Int)(M:List (List Int))(Bs:List (Nat × Value × Value))(hi:Nat):Prop :=
 w.heap.size<=b/\c<w.heap.size/\w.grownBy wr (some c)/\Cur wr c/\hi<=wr.heap.size/\(∀ p∈Bs,p.1≠b/\p.1≠c/\Box 26 wr p.1 p.2.1 p.2.2)/\∃ a cap,Box 26 wr b (.int .i64 n) (.slice a M.length cap)/\OwnS w.heap.size hi wr (.slice a M.length cap) M
theorem MidD.turn {c:Nat}{w wr w1:World}{b:Nat}{n:Int}{M:List (List Int)}{Bs:List (Nat × Value × Value)}{hi:Nat}(h:MidD c w wr b n M Bs hi)(g:wr.grownBy w1 (some c))(hcur:Cur w1 c):MidD c w w1 b n M Bs hi:=by
 obtain⟨hb,hc,hg,_,hh,hB,a,cap,bx,ho⟩:=h;exact⟨hb,hc,grown_trans' hg g,hcur,Nat.le_trans hh g.size,fun p hp=>⟨(hB p hp).1,(hB p hp).2.1,(hB p hp).2.2.by g (fun e=>(hB p hp).2.1 (by cases e;rfl))⟩,a,cap,bx.by g (fun e=>by cases e;omega),ownS_turn ho hc g⟩
theorem MidD.cur {c:Nat}{w wr:World}{b:Nat}{n:Int}{M:List (List Int)}{Bs:List (Nat × Value × Value)}{hi:Nat}(h:MidD c w wr b n M Bs hi):Cur wr c:=h.2.2.2.1
theorem MidD.grown {c:Nat}{w wr:World}{b:Nat}{n:Int}{M:List (List Int)}{Bs:List (Nat × Value × Value)}{hi:Nat}(h:MidD c w wr b n M Bs hi):w.grownBy wr (some c):=h.2.2.1
theorem MidD.c0 {c:Nat}{w wr:World}{b:Nat}{n:Int}{M:List (List Int)}{Bs:List (Nat × Value × Value)}{hi:Nat}(h:MidD c w wr b n M Bs hi):wr.cell? ⟨b,0,none⟩=some (.int .i64 n):=by
 obtain⟨_,_,_,_,_,_,a,cap,bx,_⟩:=h;exact bx.c0
theorem MidD.step {c:Nat}{w wr w1:World}{b:Nat}{n:Int}{M:List (List Int)}{Bs:List (Nat × Value × Value)}{hi:Nat}{L:List Int}{a:Option Addr}{cap g cap':Nat}{u:Value}
  (hb:w.heap.size<=b) (hc:c<w.heap.size) (hg:w.grownBy wr (some c)) (hcur:Cur wr c) (hB:∀ p∈Bs,p.1≠b/\p.1≠c/\Box 26 wr p.1 p.2.1 p.2.2) (bx:Box 26 wr b (.int .i64 n) (.slice a M.length cap)) (ho:OwnS w.heap.size hi wr (.slice a M.length cap) M)
  (h1:OwnS w.heap.size w1.heap.size w1 (.slice (some ⟨g,0,none⟩) (M.length+1) cap') (M++[L])) (g1:(wr.alloc (.cells #[u] 37)).grownBy w1 (Value.slice a M.length cap).ownBlock) :
  (w1.cell? ⟨b,1,none⟩=some (.slice a M.length cap)/\w1.frozen? ⟨b,1,none⟩=false)/\MidD c w (w1.setCell ⟨b,1,none⟩ (.slice (some ⟨g,0,none⟩) (M.length+1) cap')) b n (M++[L]) Bs w1.heap.size:=by
 have gA:=sl.qA wr (.cells #[u] 37) none;have hb2:=bx.kept gA;obtain⟨D,e,hw,hbb,hin,hp⟩:=ho.kept gA;have hb1:=hb2.by g1 (gr.box_ne hw gr.ty1 hb2);have hg1:w.grownBy w1 (some c):=⟨g1.os.trans (gA.os.trans hg.os),g1.tape.trans (gA.tape.trans hg.tape),g1.output.trans (gA.output.trans hg.output),Nat.le_trans hg.size (Nat.le_trans gA.size g1.size),fun k hk hne=>by
  rw [g1.block k (Nat.lt_of_lt_of_le hk (Nat.le_trans hg.size gA.size)) (fun e=>by have:=(hw.lt k e.symm).1;omega),gA.block k (Nat.lt_of_lt_of_le hk hg.size) nofun];exact hg.block k hk hne⟩
 have hcur1:Cur w1 c:=(hcur.kept gA nofun).kept g1 (fun r e=>by have:=(hw.lt r e).1;omega);have hB1:∀ p∈Bs,Box 26 w1 p.1 p.2.1 p.2.2:=by
  intro p hp';have hbb:=(hB _ hp').2.2.kept gA;exact hbb.by g1 (gr.box_ne hw gr.ty1 hbb)
 have gS:=sl.grown_setCell w1 b 1 (.slice (some ⟨g,0,none⟩) (M.length+1) cap');refine⟨⟨hb1.c1,hb1.f 1⟩,hb,hc,?_,hcur1.kept gS (fun r e=>by cases e;omega),by rw [cf.size_set];exact Nat.le_refl _,fun p hp'=>⟨(hB p hp').1,(hB p hp').2.1,(hB1 p hp').setO (fun e=>(hB p hp').1 e.symm)⟩,some ⟨g,0,none⟩,cap',?_,?_⟩
 ·exact⟨gS.os.trans hg1.os,gS.tape.trans hg1.tape,gS.output.trans hg1.output,Nat.le_trans hg1.size gS.size,fun k hk hne=>(gS.block k (Nat.lt_of_lt_of_le hk hg1.size) (fun e=>by cases e;omega)).trans (hg1.block k hk hne)⟩
 ·have:=hb1.set1 (.slice (some ⟨g,0,none⟩) (M.length+1) cap');rw [List.length_append];exact this
 ·rw [List.length_append];exact gr.ownS_set h1 hb1
theorem MidD.setN {c:Nat}{w wr:World}{b:Nat}{n:Int}{M:List (List Int)}{Bs:List (Nat × Value × Value)}{hi:Nat}(h:MidD c w wr b n M Bs hi)(x:Int):MidD c w (wr.setCell ⟨b,0,none⟩ (.int .i64 x)) b x M Bs hi:=by
 obtain⟨hb,hc,hg,hcur,hh,hB,a,cap,bx,ho⟩:=h;have gS:=sl.grown_setCell wr b 0 (.int .i64 x);exact⟨hb,hc,⟨gS.os.trans hg.os,gS.tape.trans hg.tape,gS.output.trans hg.output,Nat.le_trans hg.size gS.size,fun k hk hne=>(gS.block k (Nat.lt_of_lt_of_le hk hg.size) (fun e=>by cases e;omega)).trans (hg.block k hk hne)⟩,
  hcur.kept gS (fun r e=>by cases e;omega),by rw [cf.size_set];exact hh,fun p hp=>⟨(hB p hp).1,(hB p hp).2.1,(hB p hp).2.2.setO (fun e=>(hB p hp).1 e.symm)⟩,a,cap,bx.set0 _,gr.ownS_set ho bx⟩
def Drawn (c:Nat)(w w':World)(v:Value)(M:List (List Int)):Prop:=OwnS w.heap.size w'.heap.size w' v M/\w.grownBy w' (some c)/\Cur w' c
def good (n:Int)(L:List Int):Bool:=decide (L.length<=4) && L.all fun x=>decide (x≠0/\-n<=x/\x<=n)
def Right (c:Nat)(w w':World)(most n:Int)(v:Value)(M:List (List Int)):Prop:=(1<=n/\n<=most)/\(M.length:Int)<=4*n+2/\M.all (good n)=true/\Drawn c w w' v M
theorem new_some {a b d:World}{c r:Nat}(h:a.grownBy b (some c))(k:b.grownBy d (some r))(hr:a.heap.size<=r):a.grownBy d (some c) :=
 ⟨k.os.trans h.os,k.tape.trans h.tape,k.output.trans h.output,Nat.le_trans h.size k.size,fun i hi hn=>(k.block i (Nat.lt_of_lt_of_le hi h.size) (fun e=>by cases e;omega)).trans (h.block i hi hn)⟩
theorem good_all {n:Int}{N:List Int}(hl:N.length<=4)(h:N.all (fun x=>decide (x≠0/\-n<=x/\x<=n))=true):good n N=true:=by
 unfold good;rw [h,decide_eq_true hl];rfl
theorem all_snoc {n:Int}{N:List Int}{y:Int}(h:N.all (fun x=>decide (x≠0/\-n<=x/\x<=n))=true)(hy:y≠0/\-n<=y/\y<=n):(N++[y]).all (fun x=>decide (x≠0/\-n<=x/\x<=n))=true:=by
 rw [List.all_append,h];simp [hy]
theorem allG_snoc {n:Int}{M:List (List Int)}{L:List Int}(h:M.all (good n)=true)(hy:good n L=true):(M++[L]).all (good n)=true:=by
 rw [List.all_append,h];simp [hy]
theorem midD_start {c:Nat}{w w1:World}{n:Int}(hlt:c<w.heap.size)(hc1:Cur w1 c)(g1:(w.alloc (.cells #[.int .i64 0,.slice none 0 0] 26)).grownBy w1 (some c)) :
  MidD c w (w1.alloc (.cells #[.int .i64 n,.slice none 0 0] 26)) w1.heap.size n [] [(w.heap.size,.int .i64 0,.slice none 0 0)] (w1.heap.size+1):=by
 have g0:=sl.qA w (.cells #[.int .i64 0,.slice none 0 0] 26) (some c);have hb:=(Box.new 26 w (.int .i64 0) (.slice none 0 0)).by g1 (fun e=>by cases e;omega);have gA:=sl.qA w1 (.cells #[.int .i64 n,.slice none 0 0] 26);have hs:=(grown_trans' g0 g1).size;refine⟨hs,hlt,grown_trans' (grown_trans' g0 g1) (gA _),hc1.kept (gA none) nofun,by rw [World.size_alloc];exact Nat.le_refl _,fun p hp=>?_,none,0,Box.new _ _ _ _,?_⟩
 ·rw [List.mem_singleton] at hp;subst hp;exact⟨fun e=>by have:=hb.lt;have e':w.heap.size=w1.heap.size:=e;omega,fun e=>by have e':w.heap.size=c:=e;omega,hb.kept (gA none)⟩
 ·exact⟨[],rfl,World.ownsRow_nil _ _ _ _,fun k e=>(by cases e),fun p hp=>(by cases hp),.nil⟩
theorem cnf (c:Nat)(most:Int)(w:World)(hc:Cur w c)(m0:0<most)(m1:most<=6) :
  Calls Tryz.prog 54 #[.pointer (some ⟨c,0,none⟩),.int .i64 most] w fun e w'=>∃ (n:Int) (v:Value) (M:List (List Int)),e=.returned (.agg #[.int .i64 n,v])/\Right c w w' most n v M:=by
 have hlt:=hc.lt;have C0:=qH (hc.kept (sl.qA w (.cells #[.int .i64 0,.slice none 0 0] 26) none) nofun);clear hc;go_enter Tryz.func54,Tryz.ntmps54;go_wp2_with fail;refine (draw.below c _ _ (qU C0) m0 (by omega)).mono ?_;rintro e w1 ⟨x,rfl,x0,x1,hc1,g1⟩;have M1:=qH (midD_start (n:=1+x) hlt hc1 g1);have y0:=(qU M1).c0;clear hc1 g1 C0;go_wp2_with fail;refine (draw.below c _ _ (qU M1).cur (by omega) (by omega)).mono ?_;rintro e w2 ⟨k,rfl,k0,k1,hc2,g2⟩;obtain⟨K,rfl⟩:=Int.eq_ofNat_of_zero_le k0;have M2:=qH (((qU M1).turn g2 hc2));have hw1:=(qU M1).2.2.2.2.1;clear hc2 g2 M1 y0 k0
 generalize hb:w1.heap.size=b at *;clear hb;go_wp2_with fail
 go_loopg [7] K (fun gk i wr=>∃ (M:List (List Int)),M.length<=K/\gk=K - M.length/\i=.int .i64 M.length/\Hid (M.all (good (1+x))=true)/\Hid (∃ hi,MidD c w wr b (1+x) M [(w.heap.size,.int .i64 0,.slice none 0 0)] hi))
 case atStart=>exact⟨[],Nat.zero_le _,rfl,rfl,rfl,_,qU M2⟩
 case round =>
  obtain⟨M,hj,hgk,rfl,hgood,hmid⟩:=hrel;clear M2;obtain⟨hi0,hm0⟩:=qU hmid;have HM:=qH hm0;clear hmid hm0;by_cases hlt':M.length<K
  ·have hij:(M.length:Int)<(K:Int):=by omega
   have ST:=qH (MadeC.start c wr (qU HM).cur);have hcw:c<wr.heap.size:=Nat.lt_of_lt_of_le hlt (qU HM).grown.size;go_wp2_with fail;refine (draw.below c _ _ (qU ST).2.2 (by decide) (by decide)).mono ?_;rintro e w3 ⟨q,rfl,q0,q1,hc3,g3⟩;have S3:=qH ((qU ST).turn hcw g3 hc3);clear hc3 g3 ST;go_wp2_with fail;refine (draw.once c _ _ (qU S3).2.2 (by decide) (by decide)).mono ?_;rintro e w4 ⟨bt,rfl,hc4,g4⟩;have S4:=qH ((qU S3).turn hcw g4 hc4);clear hc4 g4 S3
   go_upto_if 33 with fail
   go_cut [9] from 23 to 66 (fun z wx=>∃ sz:Int,z=.int .i64 sz/\0<=sz/\sz<=4/\Hid (MadeC c wr wx (.slice (some ⟨wr.heap.size,0,none⟩) 0 0) []))
   case first =>
    cases bt
    ·go_wp2_with fail
     go_meet
     exact⟨_,rfl,by omega,by omega,S4⟩
    ·go_wp2_with fail;refine (draw.below c _ _ (qU S4).2.2 (by decide) (by decide)).mono ?_;rintro e w5 ⟨q',rfl,q0',q1',hc5,g5⟩;have S5:=qH ((qU S4).turn hcw g5 hc5);clear hc5 g5;go_wp2_with fail
     go_meet
     exact⟨_,rfl,by omega,by omega,S5⟩
   case rest =>
    obtain⟨sz,rfl,sz0,sz1,hS⟩:=hcut;clear S4 q0 q1
    go_upto_region 10 with fail
    go_cut [42] from 23 to 66 (fun z wx=>∃ bt:Bool,z=.bool bt/\Hid (MadeC c wr wx (.slice (some ⟨wr.heap.size,0,none⟩) 0 0) []))
    case first =>
     by_cases h2:sz<2
     ·have OC:=qH (draw.once c 3 _ (qU hS).2.2 (by decide) (by decide));go_wp2_with (go_at_call 51;refine (qU OC).mono ?_;rintro e w5 ⟨bu,rfl,hc5,g5⟩;have S5:=qH ((qU hS).turn hcw g5 hc5);clear hc5 g5)
      go_meet
      exact⟨_,rfl,S5⟩
     ·go_wp2_with fail
      go_meet
      exact⟨_,rfl,hS⟩
    case rest =>
     obtain⟨bv,rfl,hS2⟩:=hcut
     rename_i wc'
     clear hS
     go_upto_if 42 with fail
     go_cut [9] from 23 to 66 (fun z wx=>∃ sz:Nat,z=.int .i64 sz/\sz<=4/\Hid (MadeC c wr wx (.slice (some ⟨wr.heap.size,0,none⟩) 0 0) []))
     case first =>
      cases bv
      ·go_wp2_with fail
       go_meet
       exact⟨sz.toNat,by rw [Int.toNat_of_nonneg sz0],by omega,hS2⟩
      ·go_wp2_with fail
       go_meet
       exact⟨2,rfl,by omega,hS2⟩
     case rest =>
      obtain⟨Z,rfl,hZ,hS3⟩:=hcut;clear hS2 sz0 sz1;go_wp2_with fail
      go_loopg [8,10] Z (fun gd u d wq=>∃ (N:List Int),N.length<=Z/\gd=Z - N.length/\d=.int .i64 N.length/\Hid (N.all (fun x_1=>decide (x_1≠0/\-(1+x)<=x_1/\x_1<=1+x))=true)/\Hid (MadeC c wr wq u N))
      case atStart=>exact⟨[],Nat.zero_le _,rfl,rfl,rfl,hS3⟩
      case round =>
       obtain⟨N,he,hgd,rfl,hall,hS4⟩:=hrel;clear hS3;by_cases hlz:N.length<Z
       ·have hiz:(N.length:Int)<(Z:Int):=by omega
        have y0:=((qU HM).turn (qU hS4).2.1 (qU hS4).2.2).c0;have CB:=qH (draw.below c (1+x) _ (qU hS4).2.2 (by omega) (by omega));go_wp2_with fail;refine (qU CB).mono ?_;rintro e' w6 ⟨q,rfl,q0,q1,hc6,g6⟩;have S6:=qH ((qU hS4).turn hcw g6 hc6);clear hc6 g6 CB hS4 y0;go_wp2_with fail;refine (draw.once c _ _ (qU S6).2.2 (by decide) (by decide)).mono ?_;rintro e' w7 ⟨bw,rfl,hc7,g7⟩;have S7:=qH ((qU S6).turn hcw g7 hc7);clear hc7 g7 S6;cases bw
        ·have HA:=qH (all_snoc (y:=1+q) (qU hall) (by omega));clear hall;go_wp2_with (at_builtin;refine appendC (qU S7) hcw (by omega) rfl _ _ rfl rfl rfl ?_);intro v' w8 R;have S8:=qH R;clear R S7;go_wp2
         go_roundg (Z - (N.length+1))
         case measure=>omega
         case rel=>exact⟨_,by rw [List.length_append];simp;omega,by rw [List.length_append];rfl,by rw [List.length_append];go_num,HA,S8⟩
        ·have HA:=qH (all_snoc (y:=-(1+q)) (qU hall) (by omega));clear hall;go_wp2_with (at_builtin;refine appendC (qU S7) hcw (by omega) rfl _ _ rfl rfl rfl ?_);intro v' w8 R;have S8:=qH R;clear R S7;go_wp2
         go_roundg (Z - (N.length+1))
         case measure=>omega
         case rel=>exact⟨_,by rw [List.length_append];simp;omega,by rw [List.length_append];rfl,by rw [List.length_append];go_num,HA,S8⟩
       ·have hiz:¬ (N.length:Int)<(Z:Int):=by omega
        have GN:=qH (good_all (n:=1+x) (N:=N) (by omega) (qU hall));have G2:=qH (allG_snoc (qU hgood) (qU GN));obtain⟨ua,uc,hue⟩:=(qU hS4).form;subst hue;obtain⟨qb,qc,qg,qcur,qh,qB,oa,ocap,bx,ho⟩:=(qU HM).turn (qU hS4).2.1 (qU hS4).2.2;have ou:=qH (sl.Own.of (qU hS4).1);have ho':=qH (ho.sub (Nat.le_refl _) (qU HM).2.2.2.2.1);have HS:=qH (fun (g' cap':Nat) (w1:World) h1 g1=>MidD.step (u:=.slice ua N.length uc) (L:=N) (g:=g') (cap':=cap') (w1:=w1) qb qc qg qcur qB bx (qU ho') h1 g1);have hlo:w.heap.size<=_:=(qU HM).grown.size;have hmd:=(qU hS4).2.1.size;have b0:=bx.c0;have b1:=bx.c1;have HL:=qH hlo
        have HMD:=qH hmd;clear hlo hmd qg qcur qB ho bx HM hall GN hS4;go_wp2_with (at_builtin;refine gr.appendR (qU ho') (qU ou) (qU HL) (qU HMD) (by omega) rfl _ _ rfl rfl rfl ?_);intro g' cap' w9 h1 g1;obtain⟨⟨s1,s2⟩,m9⟩:=qU HS g' cap' w9 h1 g1;have M9:=qH m9;clear h1 g1 m9 HS ho' ou;go_wp2
        go_roundg (K - (M.length+1))
        case measure=>omega
        case rel=>exact⟨_,by rw [List.length_append];simp;omega,by rw [List.length_append];rfl,by rw [List.length_append];go_num,G2,_,qU M9⟩
  ·have hij:¬ (M.length:Int)<(K:Int):=by omega
   obtain⟨qb,qc,qg,qcur,qh,qB,oa,ocap,bx,ho⟩:=qU HM;have br:=(qB _ (List.mem_singleton.2 rfl)).2.2;have hbr:=(qB _ (List.mem_singleton.2 rfl)).1;have o0:=bx.c0;have o1:=bx.c1;have rc0:=br.c0;have rc1:=br.c1;have rf0:=br.f 0;have rf1:=br.f 1;have BR:=qH br;have OO:=qH ho;have QG:=qH qg;have QC:=qH qcur;clear qg qcur qB bx ho HM br;go_wp2;have bb:=((qU BR).set0 (.int .i64 (1+x))).set1 (.slice oa M.length ocap);have b1:=(qU BR).set0 (.int .i64 (1+x));have rg:w.heap.size<wr.heap.size:=(qU BR).lt
   (try simp only [Exit.inBlock,Exit.then])
   refine bodyPost_ret (cf.ret_box rfl rfl bb) rfl ⟨_,_,rfl,M,⟨by omega,by omega⟩,by omega,qU hgood,?_,?_,?_⟩
   ·have:=gr.ownS_set (i:=1) (u:=.slice oa M.length ocap) (gr.ownS_set (i:=0) (u:=.int .i64 (1+x)) (qU OO) (qU BR)) b1;exact this.sub (Nat.le_refl _) (by rw [cf.size_set,cf.size_set];exact qh)
   ·have g1:=sl.grown_setCell wr w.heap.size 0 (.int .i64 (1+x));have g2:=sl.grown_setCell (wr.setCell ⟨w.heap.size,0,none⟩ (.int .i64 (1+x))) w.heap.size 1 (.slice oa M.length ocap);exact new_some (new_some (qU QG) g1 (Nat.le_refl _)) g2 (Nat.le_refl _)
   ·have g1:=sl.grown_setCell wr w.heap.size 0 (.int .i64 (1+x));have g2:=sl.grown_setCell (wr.setCell ⟨w.heap.size,0,none⟩ (.int .i64 (1+x))) w.heap.size 1 (.slice oa M.length ocap);exact ((qU QC).kept g1 (fun r e=>by cases e;exact hlt)).kept g2 (fun r e=>by cases e;exact hlt)
end dcn
namespace dcn
open draw (Cur)
open dcls (MadeC MadeC.start)
def Low (L:List Int):Prop:=∀ x∈L,x≠0/\-7<=x/\x<=7
def Bd (n:Int)(M:List (List Int))(k:Nat):Prop:=(-1<=n/\n<=25)/\M.length<=k/\(∀ L∈M,L.length<=49)/\(n<=7∨∀ L∈M,Low L)
theorem low_good {n:Int}{M:List (List Int)}(hn:n<=6)(h:M.all (good n)=true):∀ L∈M,Low L:=by
 intro L hL x hx;have:=List.all_eq_true.1 h L hL;unfold good at this;rw [Bool.and_eq_true,List.all_eq_true] at this;have:=of_decide_eq_true (this.2 x hx);omega
theorem bd_good {n:Int}{M:List (List Int)}(hn:1<=n/\n<=6)(hl:(M.length:Int)<=4*n+2)(h:M.all (good n)=true):Bd n M 26:=by
 refine⟨by omega,by omega,fun L hL=>?_,.inl (by omega)⟩;have:=List.all_eq_true.1 h L hL;unfold good at this;rw [Bool.and_eq_true,decide_eq_true_iff] at this;omega
theorem Bd.snoc {n:Int}{M:List (List Int)}{k:Nat}{L:List Int}(h:Bd n M k)(hL:L.length<=49)(hf:n<=7∨Low L):Bd n (M++[L]) (k+1):=by
 refine⟨h.1,by rw [List.length_append];have:=h.2.1;simp;omega,fun K hK=>?_,?_⟩
 ·rw [List.mem_append,List.mem_singleton] at hK;rcases hK with hK | rfl
  ·exact h.2.2.1 K hK
  ·exact hL
 ·rcases h.2.2.2 with q | q
  ·exact .inl q
  ·rcases hf with f | f
   ·exact .inl f
   ·refine .inr fun K hK=>?_;rw [List.mem_append,List.mem_singleton] at hK;rcases hK with hK | rfl
    ·exact q K hK
    ·exact f
theorem low_nil:Low []:=fun x hx=>by cases hx
theorem low_one:Low [1]:=fun x hx=>by rw [List.mem_singleton] at hx;omega
theorem Bd.more {n:Int}{M:List (List Int)}{k k':Nat}(h:Bd n M k)(hk:k<=k'):Bd n M k':=⟨h.1,Nat.le_trans h.2.1 hk,h.2.2⟩
theorem Bd.setN {n n':Int}{M:List (List Int)}{k:Nat}(h:Bd n M k)(hn : -1<=n'/\n'<=25)(hf:∀ L∈M,Low L):Bd n' M k:=⟨hn,h.2.1,h.2.2.1,.inr hf⟩
def Any (c:Nat)(w wr:World)(b k:Nat):Prop:=∃ n M hi,Bd n M k/\MidD c w wr b n M [(w.heap.size,.int .i64 0,.slice none 0 0)] hi
def Came (c:Nat)(w w':World)(n:Int)(v:Value)(M:List (List Int)):Prop:=Bd n M 121/\Drawn c w w' v M
theorem midD_of {c:Nat}{w w1:World}{n:Int}{a:Option Addr}{cap:Nat}{M:List (List Int)}(hlt:c<w.heap.size)(d:Drawn c (w.alloc (.cells #[.int .i64 0,.slice none 0 0] 26)) w1 (.slice a M.length cap) M) :
  MidD c w (w1.alloc (.cells #[.int .i64 n,.slice a M.length cap] 26)) w1.heap.size n M [(w.heap.size,.int .i64 0,.slice none 0 0)] w1.heap.size:=by
 obtain⟨ho,g1,hc1⟩:=d;have g0:=sl.qA w (.cells #[.int .i64 0,.slice none 0 0] 26) (some c);have hb:=(Box.new 26 w (.int .i64 0) (.slice none 0 0)).by g1 (fun e=>by cases e;omega);have gA:=sl.qA w1 (.cells #[.int .i64 n,.slice a M.length cap] 26);have hs:=(grown_trans' g0 g1).size;refine⟨hs,hlt,grown_trans' (grown_trans' g0 g1) (gA _),hc1.kept (gA none) nofun,by rw [World.size_alloc];omega,fun p hp=>?_,a,cap,Box.new _ _ _ _,?_⟩
 ·rw [List.mem_singleton] at hp;subst hp;exact⟨fun e=>by have:=hb.lt;have e':w.heap.size=w1.heap.size:=e;omega,fun e=>by have e':w.heap.size=c:=e;omega,hb.kept (gA none)⟩
 ·exact (ho.kept (gA none)).sub (by rw [World.size_alloc];omega) (Nat.le_refl _)
theorem wr120 {x:Int}(h0:0<=x)(h1:x<2):IntKind.i64.wrap (120+x)=120+x:=by
 have:x=0∨x=1:=by omega
 rcases this with rfl | rfl <;> rfl
theorem Drawn.stored {c:Nat}{w wr:World}{hi:Nat}{a:Option Addr}{cap:Nat}{M:List (List Int)}{x y:Value}(hlt:c<w.heap.size)(qg:w.grownBy wr (some c))(qcur:Cur wr c)(qh:hi<=wr.heap.size)(ho:OwnS w.heap.size hi wr (.slice a M.length cap) M)(br:Box 26 wr w.heap.size x y)(n:Int) :
  Drawn c w ((wr.setCell ⟨w.heap.size,0,none⟩ (.int .i64 n)).setCell ⟨w.heap.size,1,none⟩ (.slice a M.length cap)) (.slice a M.length cap) M:=by
 have g1:=sl.grown_setCell wr w.heap.size 0 (.int .i64 n);have g2:=sl.grown_setCell (wr.setCell ⟨w.heap.size,0,none⟩ (.int .i64 n)) w.heap.size 1 (.slice a M.length cap);refine⟨?_,new_some (new_some qg g1 (Nat.le_refl _)) g2 (Nat.le_refl _),(qcur.kept g1 (fun r e=>by cases e;exact hlt)).kept g2 (fun r e=>by cases e;exact hlt)⟩;have:=gr.ownS_set (i:=1) (u:=.slice a M.length cap) (gr.ownS_set (i:=0) (u:=.int .i64 n) ho br) (br.set0 (.int .i64 n));exact this.sub (Nat.le_refl _) (by rw [cf.size_set,cf.size_set];exact qh)
theorem any (c:Nat)(w:World)(hc:Cur w c) :
  Calls Tryz.prog 53 #[.pointer (some ⟨c,0,none⟩)] w fun e w'=>∃ (n:Int) (v:Value) (M:List (List Int)),e=.returned (.agg #[.int .i64 n,v])/\Came c w w' n v M:=by
 have hlt:=hc.lt;have C0:=qH (cnf c 6 _ (hc.kept (sl.qA w (.cells #[.int .i64 0,.slice none 0 0] 26) none) nofun) (by decide) (by decide));clear hc;go_enter Tryz.func53,Tryz.ntmps53;go_wp2_with fail;refine (qU C0).mono ?_;rintro e w1 ⟨n,v,M,rfl,hn,hl,hg,hd⟩;obtain⟨va,vc,rfl⟩:=hd.1.len;have A1:Hid (Any c w (w1.alloc (.cells #[.int .i64 n,.slice va M.length vc] 26)) w1.heap.size 26):=⟨n,M,_,bd_good hn hl hg,midD_of hlt hd⟩;have m1:=qH (midD_of (n:=n) hlt hd);have B0:=qH (bd_good hn hl hg);have F0:=qH (low_good hn.2 hg);clear hl hg hd C0;go_wp2_with fail;refine (draw.below c _ _ (qU m1).cur (by decide) (by decide)).mono ?_;rintro e w2 ⟨k,rfl,k0,k1,hc2,g2⟩
 have M2:=qH ((qU m1).turn g2 hc2);have hb1:w1.heap.size<w2.heap.size:=by have:=g2.size;rw [World.size_alloc] at this;omega
 clear hc2 g2 m1 A1;generalize hb:w1.heap.size=b at *;clear hb
 go_upto_block 0 with fail
 go_cut [8] (fun _ wx=>Hid (Any c w wx b 27))
 case first =>
  have y0:=(qU M2).c0;by_cases k_0:k=0
  ·subst k_0;have P:=qH (fun (w3:World) (hl:w3=w2.alloc (.cells #[.int .i64 (-1),.int .i64 0,.int .i64 25,.int .i64 24,.int .i64 (n+1)] 3))=>draw.pickInt c (.slice (some ⟨w2.heap.size,0,none⟩) 5 5) [-1,0,25,24,n+1] w3 (by rw [hl];exact (qU M2).cur.kept (sl.qA w2 _ none) nofun) (by simp) (by simp) (by rw [hl];exact Sl.of_own (draw.own_alloc w2 [-1,0,25,24,n+1] (by show 5<=maxLen;decide))) (fun k e=>by cases e;exact Nat.lt_of_lt_of_le hlt (qU M2).grown.size));have TA:=qH (fun (w4:World) (hc4:Cur w4 c) (g4:(w2.alloc (.cells #[.int .i64 (-1),.int .i64 0,.int .i64 25,.int .i64 24,.int .i64 (n+1)] 3)).grownBy w4 (some c))=>(qU M2).turn (grown_trans' (sl.qA w2 _ (some c)) g4) hc4)
   go_wp2_with fail;refine (qU P _ rfl).mono ?_;rintro e w4 ⟨x,rfl,hx,hc4,g4⟩;have M4:=qH (qU TA w4 hc4 g4);have hx' : -1<=x/\x<=25:=by
    simp at hx;omega
   have y1:=(qU M4).c0;have y2:w4.frozen? ⟨b,0,none⟩=false:=by
    obtain⟨_,_,_,_,_,_,a,cap,bx,_⟩:=qU M4;exact bx.f 0
   clear hx hc4 g4 P TA;go_wp2_with fail
   go_meet
   exact⟨x,M,_,((qU B0).setN hx' (qU F0)).more (by decide),(qU M4).setN x⟩
  ·by_cases k_1:k=1
   ·subst k_1;have CL:=qH (dcls.clause c 9 4 w2.drew ((qU M2).cur.kept (cf.grown_drew w2 none) nofun) (by decide) (by decide) (by decide) (by decide));obtain⟨qb,qc,qg,qcur,qh,qB,oa,ocap,bx,ho⟩:=qU M2;have hlo:w.heap.size<=w2.heap.size:=qg.size;have hMl:M.length<=1048576:=by have:=(qU B0).2.1;omega
    have b1:=bx.c1;have HT:=qH (fun (w3:World) (ua:Option Addr) (uc:Nat) (L:List Int) (m3:MadeC c w2.drew w3 (.slice ua L.length uc) L)=>And.intro ((bx.by (grown_trans' (cf.grown_drew w2 (some c)) m3.2.1) (fun e=>by cases e;omega))) (And.intro ((ownS_turn ho qc (grown_trans' (cf.grown_drew w2 (some c)) m3.2.1)).sub (Nat.le_refl _) qh) (And.intro (sl.Own.of m3.1) m3.2.1.size)));have HS:=qH (fun (w3:World) (ua:Option Addr) (uc:Nat) (L:List Int) (m3:MadeC c w2.drew w3 (.slice ua L.length uc) L) (g' cap':Nat) (w1:World) h1 g1=>MidD.step (u:=.slice ua L.length uc) (L:=L) (g:=g') (cap':=cap') (w1:=w1) qb qc (grown_trans' qg (grown_trans' (cf.grown_drew w2 (some c)) m3.2.1)) m3.2.2 (fun p hp=>⟨(qB p hp).1,(qB p hp).2.1,(qB p hp).2.2.by (grown_trans' (cf.grown_drew w2 (some c)) m3.2.1) (fun e=>(qB p hp).2.1 (by cases e;rfl))⟩) (qU HT w3 ua uc L m3).1 (qU HT w3 ua uc L m3).2.1 h1 g1)
    clear bx ho qg qcur qB
    go_upto_region 6 with fail
    go_region_law
     (first
      | (go_simp;go_at_call 102;refine (qU CL).mono ?_;rintro e w3 ⟨u3,L,rfl,hL3,m3⟩;obtain⟨ua,uc,rfl⟩:=m3.form;obtain⟨bx3,oo3,ou3,sz3⟩:=qU HT w3 ua uc L m3;have k1:=bx3.c1;have k2:=bx3.f 1;have k9:=(bx3.kept (sl.qA w3 (.cells #[.slice ua L.length uc] 37) none)).c1;have OO3:=qH oo3;have OU3:=qH ou3;have SZ3:=qH sz3;have M3:=qH m3;clear oo3 ou3 sz3 m3 bx3)
      | (refine gr.stepR (qU OO3) (qU OU3) hlo (qU SZ3) hMl (by rfl) _ _ (by rfl) (by rfl) (by rfl) ?_;intro g4 cap4 w4 h4 g4';have R4:=qH (qU HS w3 ua uc L (qU M3) g4 cap4 w4 h4 g4');have k3:=(qU R4).1.1;have k4:=(qU R4).1.2;clear h4 g4'))
    all_goals
     go_wp2_with fail
     go_meet
     exact⟨n,_,_,(qU B0).snoc hL3 (.inl (by omega)),(qU R4).2⟩
   ·by_cases k_2:k=2
    ·subst k_2;have ST:=qH (MadeC.start c w2 (qU M2).cur);have x1:w2.cell? ⟨b,1,none⟩=w2.cell? ⟨b,1,none⟩:=rfl;obtain⟨qb,qc,qg,qcur,qh,qB,oa,ocap,bx,ho⟩:=(qU M2).turn (qU ST).2.1 (qU ST).2.2;have ou:=qH (sl.Own.of (L:=[]) (qU ST).1);have ho':=qH (ho.sub (hi':=w2.heap.size) (Nat.le_refl _) (qU M2).2.2.2.2.1);have HS:=qH (fun (g' cap':Nat) (w1:World) h1 g1=>MidD.step (u:=.slice (some ⟨w2.heap.size,0,none⟩) 0 0) (L:=[]) (g:=g') (cap':=cap') (w1:=w1) qb qc qg qcur qB bx (qU ho') h1 g1);have hlo:w.heap.size<=w2.heap.size:=(qU M2).grown.size;have hmd:=(qU ST).2.1.size;have hMl:M.length<=1048576:=by have:=(qU B0).2.1;omega
     have b1:w2.cell? ⟨b,1,none⟩=some (.slice oa M.length ocap):=by
      have e:(w2.alloc (.cells #[] 3)).heap[b]?=w2.heap[b]?:=Below.heap_alloc _ _ _ hb1;rw [←World.cell?_of_block (a:=⟨b,1,none⟩) e];exact bx.c1
     have HMD:=qH hmd;clear hmd qg qcur qB ho bx ST x1;go_wp2_with (at_builtin;refine gr.appendR (qU ho') (qU ou) hlo (qU HMD) hMl rfl _ _ rfl rfl (by rw [World.size_alloc];rfl) ?_);intro g' cap' w9 h1 g1;obtain⟨⟨s1,s2⟩,m9⟩:=qU HS g' cap' w9 h1 g1;have M9:=qH m9;clear h1 g1 m9 HS ho' ou;go_wp2_with fail
     go_meet
     exact⟨n,_,_,(qU B0).snoc (by decide) (.inr low_nil),qU M9⟩
    ·have e0:(k == 0)=false:=beq_eq_false_iff_ne.2 k_0;have e1:(k == 1)=false:=beq_eq_false_iff_ne.2 k_1;have e2:(k == 2)=false:=beq_eq_false_iff_ne.2 k_2;go_wp2_with fail
     go_meet
     exact⟨n,M,_,(qU B0).more (by decide),qU M2⟩
 case rest =>
  clear M2 B0 F0 k0 k1 hn;obtain⟨n2,N,hi2,bd2,md2⟩:=qU hcut;have M2:=qH md2;have B2:=qH bd2;clear hcut bd2 md2;go_wp2_with fail;refine (draw.once c _ _ (qU M2).cur (by decide) (by decide)).mono ?_;rintro e w3 ⟨bt,rfl,hc3,g3⟩;have M3:=qH ((qU M2).turn g3 hc3);clear hc3 g3 M2;cases bt
  ·obtain⟨qb,qc,qg,qcur,qh,qB,oa,ocap,bx,ho⟩:=qU M3;have br:=(qB _ (List.mem_singleton.2 rfl)).2.2;have o0:=bx.c0;have o1:=bx.c1;have rc0:=br.c0;have rc1:=br.c1;have rf0:=br.f 0;have rf1:=br.f 1;have BR:=qH br;have DR:=qH (Drawn.stored hlt qg qcur qh ho br n2);clear qg qcur qB bx ho M3 br;go_wp2_with fail
   (try simp only [Exit.inBlock,Exit.then])
   refine bodyPost_ret (cf.ret_box rfl rfl (((qU BR).set0 (.int .i64 n2)).set1 (.slice oa N.length ocap))) rfl ⟨_,_,N,rfl,(qU B2).more (by decide),qU DR⟩
  ·go_wp2_with fail
   go_loopg [36] (121 - N.length) (fun gk _ wr=>∃ (M:List (List Int)) (hi:Nat),M.length<=121/\gk=121 - M.length/\Hid (Bd n2 M 121)/\Hid (MidD c w wr b n2 M [(w.heap.size,.int .i64 0,.slice none 0 0)] hi))
   case atStart=>exact⟨N,_,by have:=(qU B2).2.1;omega,rfl,(qU B2).more (by decide),qU M3⟩
   case round =>
    obtain⟨M,hi,hM,hgk,hbd,hmd⟩:=hrel;clear M3 B2;have CB:=qH (draw.below c 2 wr.drew ((qU hmd).cur.kept (cf.grown_drew wr none) nofun) (by decide) (by decide));have TM:=qH (fun (w4:World) (hc4:Cur w4 c) (g4:wr.drew.grownBy w4 (some c))=>(qU hmd).turn (grown_trans' (cf.grown_drew wr (some c)) g4) hc4);obtain⟨va,vc,hbx⟩:∃ va vc,Box 26 wr b (.int .i64 n2) (.slice va M.length vc):=by
     obtain⟨_,_,_,_,_,_,a,cap,bx,_⟩:=qU hmd;exact⟨a,cap,bx⟩
    have TB:=qH (fun (w4:World) (g4:wr.drew.grownBy w4 (some c))=>hbx.by (grown_trans' (cf.grown_drew wr (some c)) g4) (fun e=>by have:=(qU hmd).1;cases e;omega));have x1:=hbx.c1;clear hbx
    go_upto_region 10 with fail
    go_cut [42] from 36 to 48 (fun q wx=>∃ x:Int,(0<=x/\x<2)/\q=.bool (decide ((M.length:Int)<120+x))/\Hid (MidD c w wx b n2 M [(w.heap.size,.int .i64 0,.slice none 0 0)] hi))
    case first =>
     go_region_with (go_at_call 41;refine (qU CB).mono ?_;rintro e w4 ⟨x,rfl,x0,x1',hc4,g4⟩;have M4:=qH (qU TM w4 hc4 g4);have z1:=(qU TB w4 g4).c1;clear hc4 g4)
     all_goals
      go_wp2_with fail
      go_meet
      exact⟨x,⟨x0,x1'⟩,by rw [wr120 x0 x1'],M4⟩
    case rest =>
     obtain⟨x,hx,rfl,hm4⟩:=hcut;clear hmd CB TM TB x1;by_cases hl:(M.length:Int)<120+x
     ·have hl':decide ((M.length:Int)<120+x)=true:=decide_eq_true hl;have hbc:b<wc.heap.size:=by
       obtain⟨_,_,_,_,_,_,a,cap,bx,_⟩:=qU hm4;exact bx.lt
      have ST:=qH (show wc.grownBy (wc.alloc (.cells #[.int .i64 1] 3)) (some c)/\Cur (wc.alloc (.cells #[.int .i64 1] 3)) c from ⟨sl.qA _ _ _,(qU hm4).cur.kept (sl.qA wc (.cells #[.int .i64 1] 3) none) nofun⟩);obtain⟨qb,qc,qg,qcur,qh,qB,oa,ocap,bx,ho⟩:=(qU hm4).turn (qU ST).1 (qU ST).2;have ou:Hid (Own wc.heap.size (wc.alloc (.cells #[.int .i64 1] 3)).heap.size (wc.alloc (.cells #[.int .i64 1] 3)) (.slice (some ⟨wc.heap.size,0,none⟩) 1 1) [1]):=sl.Own.of (L:=[1]) (draw.own_alloc wc [1] (by decide));have ho':=qH (ho.sub (hi':=wc.heap.size) (Nat.le_refl _) (qU hm4).2.2.2.2.1)
      have HS:=qH (fun (g' cap':Nat) (w1:World) h1 g1=>MidD.step (u:=.slice (some ⟨wc.heap.size,0,none⟩) 1 1) (L:=[1]) (g:=g') (cap':=cap') (w1:=w1) qb qc qg qcur qB bx (qU ho') h1 g1);have hlo:w.heap.size<=wc.heap.size:=(qU hm4).grown.size;have hmd:=(qU ST).1.size;have b1:wc.cell? ⟨b,1,none⟩=some (.slice oa M.length ocap):=by
       have e:(wc.alloc (.cells #[.int .i64 1] 3)).heap[b]?=wc.heap[b]?:=Below.heap_alloc _ _ _ hbc;rw [←World.cell?_of_block (a:=⟨b,1,none⟩) e];exact bx.c1
      have HMD:=qH hmd;clear hmd qg qcur qB ho bx ST hm4;have hMl:M.length<=1048576:=by omega
      go_wp2_with (at_builtin;refine gr.appendR (qU ho') (qU ou) hlo (qU HMD) hMl rfl _ _ rfl rfl (by rw [World.size_alloc];rfl) ?_);intro g' cap' w9 h1 g1;obtain⟨⟨s1,s2⟩,m9⟩:=qU HS g' cap' w9 h1 g1;have M9:=qH m9;have HB:=qH (show Bd n2 (M++[[1]]) 121 from ⟨(qU hbd).1,by rw [List.length_append];simp;omega,((qU hbd).snoc (by decide) (.inr low_one)).2.2⟩);clear h1 g1 m9 HS ho' ou hbd;go_wp2_with fail
      go_roundg (121 - (M.length+1))
      case measure=>omega
      case rel=>exact⟨_,_,by rw [List.length_append];simp;omega,by rw [List.length_append];rfl,HB,M9⟩
     ·have hl':decide ((M.length:Int)<120+x)=false:=decide_eq_false hl;obtain⟨qb,qc,qg,qcur,qh,qB,oa,ocap,bx,ho⟩:=qU hm4;have br:=(qB _ (List.mem_singleton.2 rfl)).2.2;have o0:=bx.c0;have o1:=bx.c1;have rc0:=br.c0;have rc1:=br.c1;have rf0:=br.f 0;have rf1:=br.f 1;have BR:=qH br;have DR:=qH (Drawn.stored hlt qg qcur qh ho br n2);clear qg qcur qB bx ho hm4 br;go_wp2_with fail
      (try simp only [Exit.inBlock,Exit.then])
      refine bodyPost_ret (cf.ret_box rfl rfl (((qU BR).set0 (.int .i64 n2)).set1 (.slice oa M.length ocap))) rfl ⟨_,_,rfl,M,qU hbd,qU DR⟩
end dcn
namespace lq
open lits (okB)
open cls (hasB)
open css (Sls tot)
open ok (cnfB litIn)
open fm (clashB)
open sl (grown_trans)
theorem solve_no {n:Int}{LL:List (List Int)}{a:List Int}(h:(cnfB n LL && a.all (litIn n))=false):solveL n LL a=none:=by
 unfold solveL;rw [h];rfl
theorem solve_clash {n:Int}{LL:List (List Int)}{a:List Int}(h:clashB a=true):solveL n LL a=none:=by
 unfold solveL
 split
 ·rw [lst_none];intro l _;unfold fm.clashB at h;obtain⟨x,hx,h2⟩:=List.any_eq_true.1 h;rw [Bool.and_eq_true] at h2;cases hh:holds LL a l with
  | false=>rfl
  | true =>
   have h3:=holds_lit hh hx;have h4:=holds_lit hh (of_decide_eq_true h2.2);rw [litT_neg h2.1,h3] at h4;cases h4
 ·rfl
theorem ahead_start {n:Nat}{LL:List (List Int)}{a:List Int}(hc:cnfB (n:Int) LL=true)(ha:a.all (litIn (n:Int))=true)(hn:clashB a=false):Ahead n a []/\rest n LL a []=solveL (n:Int) LL a:=by
 have h24:n<=24:=by
  unfold ok.cnfB at hc;rw [Bool.and_eq_true,Bool.and_eq_true,decide_eq_true_iff] at hc;omega
 have hl:=List.all_eq_true.1 ha;refine⟨⟨h24,Nat.zero_le _,fun x hx=>(by cases hx),fun j hj=>absurd hj (Nat.not_lt_zero _),hl,fun x hx=>?_⟩,?_⟩
 ·cases hb:hasB a (-x) with
  | false=>rfl
  | true =>
   unfold fm.clashB at hn;have:(a.any fun x=>okB x && hasB a (-x))=true:=List.any_eq_true.2 ⟨x,hx,by rw [(litIn_parts (hl x hx)).1,hb];rfl⟩;rw [this] at hn;cases hn
 ·unfold rest solveL;rw [hc,ha,Bool.true_and,if_pos rfl];show (lst n (fun l=>holds LL a l)).map (fun l=>l)=lst n (holds LL a);cases lst n (holds LL a) <;> rfl
theorem specSolveWith (v u:Value)(n:Int)(LL:List (List Int))(a:List Int)(lo hi:Nat)(w:World)(hn:tot LL<=1048576)(ha:a.length<=1048576)(hv:Sls w v LL)(hu:Own lo hi w u a) :
  Calls Tryz.prog 47 #[.agg #[.int .i64 n,v],u] w fun e w'=>FromE w (solveL n LL a) e w':=by
 obtain⟨O,hO⟩:∃ O,solveL n LL a=O:=⟨_,rfl⟩;rw [hO];have HO:=qH hO;clear hO;have g0:=sl.qA w (.cells #[.int .i64 n,v] 26) none;have C1:=ok.specCnfOk v n LL _ hn (hv.kept g0);have F0:=qH (Box.new 26 w (.int .i64 n) v);have HU:=qH (hu.kept g0);have HV:=qH (hv.kept g0);have G0:=qH g0;obtain⟨ua,uc,rfl,_⟩:=hu.sl;have x0:=(qU F0).c0;have x1:=(qU F0).c1;clear g0 hv hu;cases hc:cnfB n LL
 ·rw [hc] at C1;have CC:=qH C1;have E:=qH ((qU HO).symm.trans (solve_no (n:=n) (LL:=LL) (a:=a) (by rw [hc];rfl)));clear C1 hc HV HU;go_enter Tryz.func47,Tryz.ntmps47;go_wp2_with fail;refine (qU CC).mono ?_;rintro e w1 ⟨rfl,g1⟩;have G1:=qH (qT (qU G0) g1);clear g1 CC x0 x1;go_wp2_with fail;go_ret2;rw [qU E];exact⟨_,rfl,made_sub (qU G1) (app.made_nil _)⟩
 rw [hc] at C1;have CC:=qH C1;have HC:=qH hc;clear C1 hc;go_enter Tryz.func47,Tryz.ntmps47;go_wp2_with fail;refine (qU CC).mono ?_;rintro e w1 ⟨rfl,g1⟩;have G1:=qH (qT (qU G0) g1);have F1:=qH ((qU F0).kept g1);have U1:=qH ((qU HU).kept g1);have V1:=qH ((qU HV).kept g1);have y0:=(qU F1).c0;have y1:=(qU F1).c1;have CL:=l4.l04Lits v (.slice ua a.length uc) n a w1 ha (qU U1).sl;clear g1 CC x0 x1 G0 F0 HU HV;cases hl:a.all (litIn n)
 ·rw [hl] at CL;have C2:=qH CL;have E:=qH ((qU HO).symm.trans (solve_no (n:=n) (LL:=LL) (a:=a) (by rw [hl,Bool.and_false])));clear CL hl V1 U1 HC;go_wp2_with fail;refine (qU C2).mono ?_;rintro e w2 ⟨rfl,g2⟩;have G2:=qH (qT (qU G1) g2);clear g2 C2 y0 y1;go_wp2_with fail;go_ret2;rw [qU E];exact⟨_,rfl,made_sub (qU G2) (app.made_nil _)⟩
 rw [hl] at CL;have C2:=qH CL;have HL:=qH hl;clear CL hl;go_wp2_with fail;refine (qU C2).mono ?_;rintro e w2 ⟨rfl,g2⟩;have G2:=qH (qT (qU G1) g2);have F2:=qH ((qU F1).kept g2);have U2:=qH ((qU U1).kept g2);have V2:=qH ((qU V1).kept g2);have CC:=fc.specClash (.slice ua a.length uc) a w2 ha (qU U2).sl;clear g2 C2 y0 y1 G1 F1 U1 V1;have z0:=(qU F2).c0;have z1:=(qU F2).c1;cases hx:clashB a
 ·rw [hx] at CC;have C3:=qH CC;have hn0:0<=n:=by
   have:=qU HC;unfold ok.cnfB at this;rw [Bool.and_eq_true,Bool.and_eq_true,decide_eq_true_iff] at this;omega
  obtain⟨m,rfl⟩:=Int.eq_ofNat_of_zero_le hn0;obtain⟨hA,hR⟩:=ahead_start (qU HC) (qU HL) hx;have CF:=from_ m LL hn (lits_in (qU HC)) (m+1) a [] v (.slice ua a.length uc) lo hi w2 hA (by show m - 0<m+1;omega) (by show a.length<=1048576+0;omega) (qU V2) (qU U2);rw [hR,qU HO] at CF;have K4:Hid (Calls Tryz.prog 96 #[.agg #[.int .i64 (m:Int),v],.slice ua a.length uc,.int .i64 1] w2 fun e w'=>FromE w2 O e w'):=CF;clear CC hx hA hR CF;go_wp2_with fail;refine (qU C3).mono ?_;rintro e w3 ⟨rfl,hw⟩;have hw':=hw.symm;clear hw;subst hw';go_wp2_with fail;refine (qU K4).mono ?_;rintro e w3 ⟨r,rfl,m3⟩;have M3:=qH m3
  clear m3 K4 C3;go_wp2_with fail;go_ret2;exact⟨r,rfl,made_sub (qU G2) (qU M3)⟩
 ·rw [hx] at CC;have C3:=qH CC;have E:=qH ((qU HO).symm.trans (solve_clash (n:=n) (LL:=LL) hx));clear CC hx;go_wp2_with fail;refine (qU C3).mono ?_;rintro e w3 ⟨rfl,hw⟩;have hw':=hw.symm;clear hw;subst hw';go_wp2_with fail;go_ret2;rw [qU E];exact⟨_,rfl,made_sub (qU G2) (app.made_nil _)⟩
theorem specSolve (v:Value)(n:Int)(LL:List (List Int))(w:World)(hn:tot LL<=1048576)(hv:Sls w v LL) :
  Calls Tryz.prog 14 #[.agg #[.int .i64 n,v]] w fun e w'=>FromE w (solveL n LL []) e w':=by
 have g0:=sl.qA w (.cells #[.int .i64 n,v] 26) none;have F0:=qH (Box.new 26 w (.int .i64 n) v);have mn:=app.made_nil (w.alloc (.cells #[.int .i64 n,v] 26));have C:=specSolveWith v (.slice (some ⟨(w.alloc (.cells #[.int .i64 n,v] 26)).heap.size,0,none⟩) 0 0) n LL [] _ _ _ hn (Nat.zero_le _) ((hv.kept g0).kept mn.2) (Own.of mn.1);obtain⟨O,hO⟩:∃ O,solveL n LL []=O:=⟨_,rfl⟩;rw [hO] at C ⊢;rw [World.size_alloc] at C;have G:=qH (qT g0 mn.2);have CC:=qH C;have x0:=(qU F0).c0;have x1:=(qU F0).c1;clear C g0 mn hv hO;go_enter Tryz.func14,Tryz.ntmps14;go_wp2_with fail;refine (qU CC).mono ?_;rintro e w3 ⟨r,rfl,m3⟩
 have M3:=qH m3;clear m3 CC;go_wp2_with fail;go_ret2;exact⟨r,rfl,made_sub (qU G) (qU M3)⟩
end lq
end Go.Proofs.YtddmmoehlabkiaaGreatDoor
