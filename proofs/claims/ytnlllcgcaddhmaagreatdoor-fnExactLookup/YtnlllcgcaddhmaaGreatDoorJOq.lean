/- Rows (arrays of 24 small numbers): what row.list and row.ahead answer. -/
import Derived.Test.YtnlllcgcaddhmaaGreatDoorJOc
import Derived.Laws.Rows
import Derived.Laws.Tables
import Derived.Test.YtnlllcgcaddhmaaGreatDoorJOn
import Derived.Test.YtnlllcgcaddhmaaGreatDoorJXLits
import Derived.WideKeyEntry
import Derived.DeepKeys4
import Derived.Deep.RegionLaw
import Derived.Deep.RegionHeld3
import Derived.Great.BuildSlice
import Derived.Laws.OwnMore
import Derived.Deep.QuietTactic
import Derived.BigQuiet
import Derived.Test.YtnlllcgcaddhmaaGreatDoorJXRow
import Derived.Test.YtnlllcgcaddhmaaGreatDoorJXFm
namespace Go.Proofs.YtnlllcgcaddhmaaGreatDoor.ro
open Go.ChangeShapes Go.WideShapes Go.ChangeAt Go.RowKit
open sl (Sl Own ints hide unhide grown_refl grown_trans grown_drewN below_of of_below)
open wo (Made)
set_option linter.unusedVariables false
def cells8 (R:List Int):Array Value:=(R.map fun x=>Value.int .i8 x).toArray
theorem size8 (R:List Int):(cells8 R).size=R.length:=by simp [cells8]
theorem at8 (R:List Int)(k:Nat)(h:k<R.length):(cells8 R)[k]?=some (.int .i8 (R.getD k 0)):=by simp [cells8,h]
def lits8 (R:List Int):List Int:=R.filter fun x=>x != 0
theorem lits8_step (R:List Int)(k:Nat)(h:k<R.length):lits8 (R.take (k+1))=lits8 (R.take k)++(if R.getD k 0 != 0 then [R.getD k 0] else []):=by
 rw [List.take_succ_eq_append_getElem h,lits8,List.filter_append,show R.getD k 0=R[k] by simp [h]]
 congr 1
 by_cases hx:R[k]=0 <;> simp [hx]
theorem infoLit:(Tryz.prog.info? 99).map (·.size)=some 1:=by kernel_rfl
theorem index8 (C:Array Value)(k:Nat)(x:Int)(w:World)(h:k<24)(hc:C[k]?=some (.int .i8 x)):(Instr.index 101 (.agg C) (.int .i64 (k:Int))).run Tryz.prog w=.ok (.int .i8 x) w:=by
 obtain⟨i,hi,hs⟩:=Option.map_eq_some_iff.1 infoLit
 simp [Instr.index,run_underlying Tryz.underlying101,run_underlying Tryz.underlying99,asIntOf,sizeOf,typeInfo,hi,hs,part,isAgg,hc,go_sem]
 intro h'
 omega
theorem infoRow:(Tryz.prog.info? 101).map (·.size)=some 24:=by kernel_rfl
set_option maxRecDepth 10000 in
set_option maxHeartbeats 800000 in
theorem rowList (R:List Int)(w:World)(hR:R.length=24)(hb:∀ k,k<24→-24≤R.getD k 0∧R.getD k 0≤24) :
  Calls Tryz.prog 72 #[.agg (cells8 R)] w fun e w'=>∃ u,e=.returned u∧Made w w' u (lits8 R):=by
 have hs:=size8 R
 have hat:=at8 R
 rw [hR] at hs hat
 generalize hC:cells8 R=C at *
 obtain⟨i0,hi,hz0,hz1,hz2⟩:=info_parts sl.info3
 have HAT:=hide hat
 have hsz:=infoRow
 rw [←hs] at hsz
 have G0:=hide (World.grownBy_alloc w (.cells C 101) none)
 have NEW:=hide (Go.heap_alloc_new w (.cells C 101))
 clear hat hC
 go_enter Tryz.func72,Tryz.ntmps72
 go_wp2_with (first | (at_make;refine wpList_make_own _ rfl _ _ 34 rfl w.heap.size 3 i0 (.int .i64 0) 1 Tryz.underlying34 hi hz0 hz1 _ _ _ 24 rfl rfl (by rfl) ?b1 ?b2 ?b3 ?_) | go_in)
 case b1=>rw [hz2];omega
 case b2=>unfold maxLen;omega
 case b3=>simp
 intro w1 hown hgrow
 have st:Hid (Made w w1 _ []):=⟨hown,grown_trans (unhide G0) hgrow⟩
 have hg:w1.heap[w.heap.size]?=some (.cells C 101):=(hgrow.block w.heap.size (by simp) (fun e=>by cases e)).trans (unhide NEW)
 clear hown hgrow
 go_wp2_with (refine wpList_load_row rfl 101 _ rfl w.heap.size rfl 101 C (0,0) _ hg Tryz.underlying101 rfl hsz ?_)
 clear hg hsz NEW G0
 go_loopw [3,8] (fun u i wr=>∃ k:Nat,k≤24∧i=.int .i64 k∧Hid (Made w wr u (lits8 (R.take k)))) (fun _ i _=>24 - (intOf i).toNat)
 case atStart=>exact⟨0,Nat.zero_le _,rfl,st⟩
 case round =>
  obtain⟨k,hk,rfl,hm⟩:=hrel
  clear st
  by_cases hlt:k<24
  ·have hc:=unhide HAT k hlt
   have hx:=hb k hlt
   have hi':(k:Int)<24:=by omega
   have hst:=lits8_step R k (by omega)
   have hM:(lits8 (R.take k)).length≤4194304:=Nat.le_trans (List.length_filter_le _ _) (by rw [List.length_take];omega)
   generalize R.getD k 0=x at *
   generalize lits8 (R.take k)=M at *
   clear HAT hb
   by_cases h0:x=0
   ·subst h0
    have HS:=hide (show lits8 (R.take (k+1))=M by rw [hst];simp)
    have hix:=index8 C k 0 wr hlt hc
    clear hst hc
    go_wp2
    go_roundw
    case rel=>exact⟨k+1,by omega,by go_num,by rw [unhide HS];exact hm⟩
    case measure=>simp [intOf];omega
   ·have h0':(x != 0)=true:=by simp [h0]
    have HS:=hide (show lits8 (R.take (k+1))=M++[x] by rw [hst,h0'];simp)
    have hix:=index8 C k x wr hlt hc
    obtain⟨x0,x1⟩:=hx
    clear hst hc h0
    go_wp2_with (at_builtin;refine wo.append1 (unhide hm).2 (unhide hm).1 hM rfl _ _ rfl rfl rfl ?_)
    intro v' w3 R'
    have R3:=hide R'
    clear R' hm
    go_wp2
    go_roundw
    case rel=>exact⟨k+1,by omega,by go_num,by rw [unhide HS];exact R3⟩
    case measure=>simp [intOf];omega
  ·have hi':¬ (k:Int)<24:=by omega
   have e:R.take k=R:=List.take_of_length_le (by omega)
   rw [e] at hm
   clear HAT e hb
   go_wp2
   go_ret
   exact⟨_,rfl,unhide hm⟩
def aheadL:List Int→List Int→Bool
 | x::R,y::S=>if x=y then aheadL R S else decide (lits.placeI x<lits.placeI y)
 | _,_=>false
theorem aheadL_step (R S:List Int)(k:Nat)(h:k<R.length)(h':k<S.length):aheadL (R.drop k) (S.drop k)=if R.getD k 0=S.getD k 0 then aheadL (R.drop (k+1)) (S.drop (k+1)) else decide (lits.placeI (R.getD k 0)<lits.placeI (S.getD k 0)):=by
 rw [List.drop_eq_getElem_cons h,List.drop_eq_getElem_cons h',aheadL,show R.getD k 0=R[k] by simp [h],show S.getD k 0=S[k] by simp [h']]
theorem aheadL_end (R S:List Int)(k:Nat)(h:R.length≤k):aheadL (R.drop k) (S.drop k)=false:=by
 rw [List.drop_eq_nil_of_le h]
 rfl
set_option maxRecDepth 10000 in
set_option maxHeartbeats 800000 in
theorem rowAhead (R S:List Int)(w:World)(hR:R.length=24)(hS:S.length=24)(hb:∀ k,k<24→-24≤R.getD k 0∧R.getD k 0≤24)(hd:∀ k,k<24→-24≤S.getD k 0∧S.getD k 0≤24) :
  Calls Tryz.prog 71 #[.agg (cells8 R),.agg (cells8 S)] w fun e w'=>e=.returned (.bool (aheadL R S))∧w.grownBy w' none:=by
 have hs:=size8 R
 have hat:=at8 R
 have ht:=size8 S
 have hau:=at8 S
 rw [hR] at hs hat
 rw [hS] at ht hau
 generalize cells8 R=C at *
 generalize cells8 S=D at *
 have HAT:=hide hat
 have HAU:=hide hau
 have hsz:=infoRow
 rw [←hs] at hsz
 have G2:=hide (grown_trans (r:=none) (World.grownBy_alloc w (.cells C 101) none) (World.grownBy_alloc (w.alloc (.cells C 101)) (.cells D 101) none))
 have hg:((w.alloc (.cells C 101)).alloc (.cells D 101)).heap[w.heap.size]?=some (.cells C 101):=(Go.heap_alloc_old _ _ (by simp)).trans (Go.heap_alloc_new w (.cells C 101))
 have hcell:∀ k,((w.alloc (.cells C 101)).alloc (.cells D 101)).cell? ⟨w.heap.size+1,k,none⟩=D[k]?:=by
  intro k
  have e:=Go.heap_alloc_new (w.alloc (.cells C 101)) (.cells D 101)
  rw [World.size_alloc] at e
  exact cell_of_row _ _ k D _ _ e
 have HC:=hide hcell
 clear hat hau hcell
 go_enter Tryz.func71,Tryz.ntmps71
 go_wp2_with (refine wpList_load_row rfl 101 _ rfl w.heap.size rfl 101 C (0,0) _ hg Tryz.underlying101 rfl hsz ?_)
 clear hg hsz
 go_loop [8] (fun i=>∃ k:Nat,k≤24∧i=.int .i64 k∧Hid (aheadL R S=aheadL (R.drop k) (S.drop k))) (fun i=>24 - (intOf i).toNat)
 case atStart=>exact⟨0,Nat.zero_le _,rfl,rfl⟩
 case round =>
  obtain⟨k,hk,rfl,hm⟩:=hrel
  by_cases hlt:k<24
  ·have hc:=unhide HAT k hlt
   have hu:=(unhide HC k).trans (unhide HAU k hlt)
   have hx:=hb k hlt
   have hy:=hd k hlt
   have hi':(k:Int)<24:=by omega
   have hst:=aheadL_step R S k (by omega) (by omega)
   generalize R.getD k 0=x at *
   generalize S.getD k 0=y at *
   clear HAT HAU HC hb hd
   have hix:=index8 C k x ((w.alloc (.cells C 101)).alloc (.cells D 101)) hlt hc
   have CB:=hide (fun w'=>lits.before x y w' hx.1 hx.2 hy.1 hy.2)
   by_cases he:x=y
   ·have HM:=hide (show aheadL R S=aheadL (R.drop (k+1)) (S.drop (k+1)) by rw [unhide hm,hst,if_pos he])
    subst he
    clear hst hm hc
    go_wp2_with fail
    go_round
    case rel=>exact⟨k+1,by omega,by go_num,HM⟩
    case measure=>simp [intOf];omega
   ·have HM:=hide (show aheadL R S=decide (lits.placeI x<lits.placeI y) by rw [unhide hm,hst,if_neg he])
    have he':(x != y)=true:=by simp [he]
    clear hst hm hc he
    go_wp2_with fail
    refine (unhide CB _).mono ?_;rintro e w2 ⟨rfl,hw⟩;have hw':=hw.symm;clear hw;subst hw'
    go_wp2_with fail
    go_ret
    exact⟨sl.ret_bool (unhide HM).symm,unhide G2⟩
  ·have hi':¬ (k:Int)<24:=by omega
   have HM:=hide (show aheadL R S=false by rw [unhide hm];exact aheadL_end R S k (by omega))
   clear HAT HAU HC hb hd hm
   go_wp2
   go_ret
   exact⟨sl.ret_bool (unhide HM).symm,unhide G2⟩
end Go.Proofs.YtnlllcgcaddhmaaGreatDoor.ro
namespace Go.Proofs.YtnlllcgcaddhmaaGreatDoor.ro
open Go.ChangeShapes Go.WideShapes Go.ChangeAt Go.RowKit
open sl (Sl Own ints hide unhide grown_refl grown_trans grown_drewN below_of of_below)
open wo (Made)
open srt (srt okTo srt_yes srt_no okTo_succ litI Tab)
set_option linter.unusedVariables false
theorem srt_half (S k:Nat)(h:okTo S k=true):(srt S (2*k)).length≤k:=by
 induction k with
 | zero=>exact Nat.le_refl _
 | succ k ih =>
  rw [okTo_succ,Bool.and_eq_true] at h
  have i:=ih h.1
  have h2:=h.2
  rw [show 2*(k+1)=2*k+1+1 by omega]
  cases h0:S.testBit (2*k)
  ·cases h1:S.testBit (2*k+1)
   ·rw [srt_no h1,srt_no h0];omega
   ·rw [srt_yes h1,srt_no h0,List.length_append];simp only [List.length_cons,List.length_nil];omega
  ·cases h1:S.testBit (2*k+1)
   ·rw [srt_no h1,srt_yes h0,List.length_append];simp only [List.length_cons,List.length_nil];omega
   ·rw [h0,h1] at h2
    simp at h2
def pad (L:List Int):List Int:=L++List.replicate (24 - L.length) 0
theorem pad_len {L:List Int}(h:L.length≤24):(pad L).length=24:=by simp [pad];omega
theorem pad_step (L:List Int)(k:Nat)(h:k<L.length)(h24:L.length≤24):(cells8 (pad (L.take k))).setIfInBounds k (.int .i8 (L.getD k 0))=cells8 (pad (L.take (k+1))):=by
 apply Array.ext'
 simp only [cells8,Array.toList_setIfInBounds]
 rw [←List.map_set]
 congr 1
 apply List.ext_getElem
 ·simp [pad];omega
 ·intro j h1 h2
  simp only [pad,List.getElem_set,List.getElem_append,List.length_take,List.getElem_take,List.getElem_replicate]
  have hk:L.getD k 0=L[k]:=by simp [h]
  rw [hk]
  by_cases hj:k=j
  ·subst hj
   simp [show k<min (k+1) L.length by omega]
  ·simp only [hj,if_false]
   by_cases hjk:j<k
   ·simp [show j<min k L.length by omega,show j<min (k+1) L.length by omega]
   ·simp [show ¬ j<min k L.length by omega,show ¬ j<min (k+1) L.length by omega]
theorem srt_bd (S k:Nat)(h:k<(srt S 48).length) : -24≤(srt S 48).getD k 0∧(srt S 48).getD k 0≤24:=by
 have hm:(srt S 48).getD k 0∈srt S 48:=by
  rw [show (srt S 48).getD k 0=(srt S 48)[k] by simp [h]]
  exact List.getElem_mem h
 generalize (srt S 48).getD k 0=x at *
 unfold srt at hm
 obtain⟨p,hp,rfl⟩:=List.mem_map.1 hm
 rw [List.mem_filter,List.mem_range] at hp
 exact srt.litI_bd p hp.1
theorem one8 (R:List Int):(cells8 R).all (·.oneCell')=true:=by
 rw [Array.all_eq_true_iff_forall_mem]
 intro v hv
 simp only [cells8,List.mem_toArray,List.mem_map] at hv
 obtain⟨x,_,rfl⟩:=hv
 rfl
def RMid (b:Nat)(w wr:World)(R:List Int):Prop:=wr.heap[b]?=some (.cells (cells8 R) 101)∧w.grownBy wr (some b)
theorem RMid.cell {b:Nat}{w wr:World}{R:List Int}(h:RMid b w wr R)(k:Nat)(hk:k<R.length):wr.cell? ⟨b,k,none⟩=some (.int .i8 (R.getD k 0)):=by
 rw [cell_of_row _ _ k _ _ _ h.1,at8 R k hk]
theorem RMid.froz {b:Nat}{w wr:World}{R:List Int}(h:RMid b w wr R)(k:Nat):wr.frozen? ⟨b,k,none⟩=false:=by
 simp [World.frozen?,h.1]
theorem RMid.set {b:Nat}{w wr:World}{R R':List Int}(h:RMid b w wr R)(k:Nat)(x:Int)(e:(cells8 R).setIfInBounds k (.int .i8 x)=cells8 R'):RMid b w (wr.setCell ⟨b,k,none⟩ (.int .i8 x)) R':=by
 refine⟨?_,sl.grown_trans' h.2 (sl.grown_setCell wr b k _)⟩
 rw [setCell_eq_setRow wr b k (cells8 R) _ _ _ h.1,e]
 exact setRow_heap wr b (cells8 R) _ _ _ h.1
set_option maxRecDepth 10000 in
set_option maxHeartbeats 800000 in
theorem rowOf (S:Nat)(w:World)(hT:Tab w)(hS:S<2 ^ 48)(hok:okTo S 24=true) :
  Calls Tryz.prog 116 #[.int .u64 S] w fun e w'=>e=.returned (.agg (cells8 (pad (srt S 48))))∧w.grownBy w' none:=by
 have hl:(srt S 48).length≤24:=srt_half S 24 hok
 have hbd:=srt_bd S
 have CL:=fun w' (h:Tab w')=>srt.list S w' h hS
 generalize srt S 48=L at *
 have HB:=hide hbd
 have C1:=hide CL
 have HT:=hide hT
 clear hbd CL hT hok
 go_enter Tryz.func116,Tryz.ntmps116
 go_wp2_with fail
 have gA:=World.grownBy_alloc w (.cells (cells8 (pad [])) 101) none
 have gB:=World.grownBy_alloc (w.alloc (.cells (cells8 (pad [])) 101)) (.cells (cells8 (pad [])) 101) none
 refine (unhide C1 ((w.alloc (.cells (cells8 (pad [])) 101)).alloc (.cells (cells8 (pad [])) 101)) ((unhide HT).kept (grown_trans (r:=none) gA gB))).mono ?_;rintro e w2 ⟨u,rfl,ho,g2⟩
 have hsz:((w.alloc (.cells (cells8 (pad [])) 101)).alloc (.cells (cells8 (pad [])) 101)).heap.size=w.heap.size+2:=by rw [World.size_alloc,World.size_alloc]
 rw [hsz] at ho
 have G2:=hide (grown_trans (r:=none) (grown_trans (r:=none) gA gB) g2)
 have hr:w2.heap[w.heap.size]?=some (.cells (cells8 (pad [])) 101):=(g2.block w.heap.size (by rw [hsz];omega) (fun e=>by cases e)).trans ((Go.heap_alloc_old _ _ (by simp)).trans (Go.heap_alloc_new w (.cells (cells8 (pad [])) 101)))
 have hx:=Go.heap_alloc_new (w.alloc (.cells (cells8 (pad [])) 101)) (.cells (cells8 (pad [])) 101)
 rw [World.size_alloc] at hx
 have ST:Hid (RMid (w.heap.size+1) w2 w2 (pad (L.take 0))):=⟨(g2.block (w.heap.size+1) (by rw [hsz];omega) (fun e=>by cases e)).trans hx,⟨rfl,rfl,rfl,Nat.le_refl _,fun _ _ _=>rfl⟩⟩
 have HR:=hide hr
 obtain⟨a,cap,rfl,HA⟩:∃ a cap,u=.slice a L.length cap∧Hid (L=[]∨∃ g,a=some ⟨g,0,none⟩∧w.heap.size+2≤g∧g<w2.heap.size∧∀ k,k<L.length→w2.cell? ⟨g,k,none⟩=some (.int .i64 (L.getD k 0))):=by
  have hc:=fun g=>ho.cells (g:=g)
  have hlt:=ho.lt
  rcases ho.2 with ⟨rfl,hn⟩ | ⟨g,cap,cur,rfl,hbg,hg,_⟩
  ·exact⟨none,0,by rw [hn],.inl (List.eq_nil_of_length_eq_zero hn)⟩
  ·refine⟨_,_,rfl,.inr ⟨g,rfl,hbg,(hlt g rfl).2,fun k hk=>?_⟩⟩
   have:=hc g rfl k (.int .i64 (L.getD k 0)) (by simp [ints,hk])
   rwa [show (⟨g,0,none⟩:Addr).add k=⟨g,k,none⟩ by unfold Addr.add;split <;> simp_all] at this
 clear ho gA gB g2 hr hx hsz C1 HT
 go_wp2_with fail
 go_loopw [9] (fun i wr=>∃ k:Nat,k≤L.length∧i=.int .i64 k∧Hid (RMid (w.heap.size+1) w2 wr (pad (L.take k)))) (fun i _=>L.length - (intOf i).toNat)
 case atStart=>exact⟨0,Nat.zero_le _,rfl,ST⟩
 case round =>
  obtain⟨k,hk,rfl,hm⟩:=hrel
  clear ST
  by_cases hlt:k<L.length
  ·rcases unhide HA with h | ⟨g,rfl,hg0,hg1,hcb⟩
   ·rw [h] at hlt
    simp at hlt
   ·have c1:wr.cell? ⟨g,k,none⟩=some (.int .i64 (L.getD k 0)):=(unhide hm).2.cell (hcb k hlt) (fun e=>absurd (Option.some.inj e) (by show g≠_;omega))
    have hp:(pad (L.take k)).length=24:=pad_len (by rw [List.length_take];omega)
    have c2:=(unhide hm).cell k (by omega)
    have c3:=(unhide hm).froz k
    have hi':(k:Int)<(L.length:Int):=by omega
    have hk24:(k:Int)<24:=by omega
    have hx:=unhide HB k hlt
    have N:=hide ((unhide hm).set k (L.getD k 0) (pad_step L k hlt hl))
    generalize L.getD k 0=x at *
    generalize (pad (L.take k)).getD k 0=y at *
    obtain⟨x0,x1⟩:=hx
    clear hcb HA hp HB HR
    go_wp2_with fail
    go_roundw
    case rel=>exact⟨k+1,by omega,by go_num,N⟩
    case measure=>simp [intOf];omega
  ·have hi':¬ (k:Int)<(L.length:Int):=by omega
   have e:L.take k=L:=List.take_of_length_le (by omega)
   rw [e] at hm
   have hsz:=infoRow
   have h24:(cells8 (pad L)).size=24:=by rw [size8,pad_len hl]
   rw [←h24] at hsz
   have hg:=(unhide hm).1
   have hr:wr.heap[w.heap.size]?=some (.cells (cells8 (pad [])) 101):=((unhide hm).2.block w.heap.size (Array.getElem?_eq_some_iff.1 (unhide HR)).1 (fun e=>absurd (Option.some.inj e) (by omega))).trans (unhide HR)
   have hone:(cells8 (pad L)).all (·.oneCell')=true:=one8 (pad L)
   have GE:Hid (w.grownBy (wr.setRow w.heap.size (cells8 (pad L))) none):=by
    have g2:=unhide G2
    have g3:=(unhide hm).2
    refine⟨g3.os.trans g2.os,g3.tape.trans g2.tape,g3.output.trans g2.output,by have:=Nat.le_trans g2.size g3.size;simpa using this,fun j hj _=>?_⟩
    have a1:j≠w.heap.size:=by omega
    exact (setRow_other wr w.heap.size j _ a1).trans ((g3.block j (Nat.lt_of_lt_of_le hj g2.size) (fun e=>absurd (Option.some.inj e) (by omega))).trans (g2.block j hj (fun e=>by cases e)))
   clear HA e HB
   generalize hC:cells8 (pad L)=C at *
   have HC:=hide hC
   clear hC
   go_wp2_with (first | refine wpList_load_row rfl 101 _ rfl (w.heap.size+1) rfl 101 C (0,0) _ hg Tryz.underlying101 rfl hsz ?_ | refine wpList_store_row rfl 101 _ _ rfl w.heap.size C rfl rfl 101 _ hr hsz ?_ ?_ ?_)
   ·rw [size8]
    rfl
   ·rw [←h24]
    exact hone
   ·have hr':=hide (setRow_heap wr w.heap.size _ C _ _ hr)
    clear hr hg
    go_wp2_with fail
    refine bodyPost_ret (results_cell_row (p:=2) (ty:=101) rfl _ _ w.heap.size 101 C (0,0) _ rfl (unhide hr') Tryz.underlying101 rfl hsz) rfl ?_
    exact⟨by rw [unhide HC],unhide GE⟩
end Go.Proofs.YtnlllcgcaddhmaaGreatDoor.ro
namespace Go.Proofs.YtnlllcgcaddhmaaGreatDoor.le
open Go.ChangeShapes Go.WideShapes Go.ChangeAt Go.RowKit
open sl (Sl hide unhide ret_bool grown_refl grown_trans grown_drewN below_of of_below)
open lits (befB)
set_option linter.unusedVariables false
theorem same_hit {L M:List Int}{k:Nat}(h:k<L.length)(h':k<M.length)(hx:¬ L.getD k 0=M.getD k 0):decide (L=M)=false:=by
 rw [decide_eq_false_iff_not]
 intro e
 rw [e] at hx
 exact hx rfl
theorem same_step {L M:List Int}{k:Nat}(h:k<L.length)(h':k<M.length)(hx:L.getD k 0=M.getD k 0)(ht:L.take k=M.take k):L.take (k+1)=M.take (k+1):=by
 rw [List.take_succ_eq_append_getElem h,List.take_succ_eq_append_getElem h',ht]
 congr 2
 simpa [h,h'] using hx
set_option maxHeartbeats 800000 in
theorem l02Same (v u:Value)(L M:List Int)(w:World)(hL:L.length≤1048576)(hM:M.length≤1048576)(hv:Sl w v L)(hu:Sl w u M) :
  Calls Tryz.prog 81 #[v,u] w fun e w'=>e=.returned (.bool (decide (L=M)))∧w.grownBy w' none:=by
 obtain⟨a,cap,rfl,ha⟩:=hv
 obtain⟨c,cap',rfl,hc⟩:=hu
 have HA:=hide ha
 have HC:=hide hc
 clear ha hc
 by_cases hll:L.length=M.length
 ·have hle:((L.length:Int) != (M.length:Int))=false:=by simp [hll]
  have HLL:=hide hll
  clear hll
  go_enter Tryz.func81,Tryz.ntmps81
  go_wp2
  go_loopw [5] (fun i wr=>∃ k:Nat,k≤L.length∧i=.int .i64 k∧Hid (L.take k=M.take k)∧∃ m,Hid (wr=w.drewN m)) (fun i _=>L.length - (intOf i).toNat)
  case atStart=>exact⟨0,Nat.zero_le _,rfl,(by show _=_;simp),0,rfl⟩
  case round =>
   obtain⟨k,hk,rfl,ht,m,hg⟩:=hrel
   have hg':=unhide hg
   clear hg
   subst hg'
   have hml:=unhide HLL
   by_cases hlt:k<L.length
   ·rcases unhide HA with h | ⟨b,off,rfl,hb,hcb⟩
    ·rw [h] at hlt
     simp at hlt
    rcases unhide HC with h | ⟨d,off',rfl,hd,hcd⟩
    ·rw [hml,h] at hlt
     simp at hlt
    have c1:=hcb k hlt
    have c2:=hcd k (by omega)
    have hi:(k:Int)<(L.length:Int):=by omega
    have hj:(k:Int)<(M.length:Int):=by omega
    have h1:=fun h=>same_hit (L:=L) (M:=M) hlt (by omega) h
    have h2:=fun h=>same_step (L:=L) (M:=M) hlt (by omega) h (unhide ht)
    clear hml hcb hcd HA HC ht hle
    generalize L.getD k 0=x at *
    generalize M.getD k 0=y at *
    by_cases he:x=y
    ·have HS:=hide (h2 he)
     subst he
     clear h1 h2
     go_wp2
     go_quiet (fail)
     go_wp2
     go_roundw
     case rel=>exact⟨k+1,by omega,by go_num,HS,_,rfl⟩
     case measure=>simp [intOf];omega
    ·have HS:=hide (h1 he)
     have he':(x != y)=true:=by simp [he]
     clear h1 h2 he
     go_wp2
     go_quiet (fail)
     go_wp2
     go_ret
     exact⟨ret_bool (unhide HS).symm,grown_trans (grown_drewN w m) (grown_drewN _ _)⟩
   ·have hi:¬ (k:Int)<(L.length:Int):=by omega
    have HS:=hide (show decide (L=M)=true by
     have e:=unhide ht
     rw [List.take_of_length_le (by omega),List.take_of_length_le (by omega)] at e
     exact decide_eq_true e)
    clear hml HA HC ht hle
    go_wp2
    go_ret
    exact⟨ret_bool (unhide HS).symm,grown_drewN w m⟩
 ·have hle:((L.length:Int) != (M.length:Int))=true:=by simp;omega
  have HS:=hide (show decide (L=M)=false by rw [decide_eq_false_iff_not];intro e;exact hll (by rw [e]))
  clear hll HA HC
  go_enter Tryz.func81,Tryz.ntmps81
  go_wp2
  go_ret
  exact⟨ret_bool (unhide HS).symm,grown_refl w⟩
def lessL:List Int→List Int→Bool
 | x::a,y::b=>if x=y then lessL a b else befB x y
 | [],b=>decide (0<b.length)
 | _::_,[]=>false
theorem less_step (L M:List Int)(k:Nat)(h:k<L.length)(h':k<M.length):lessL (L.drop k) (M.drop k)=if L.getD k 0=M.getD k 0 then lessL (L.drop (k+1)) (M.drop (k+1)) else befB (L.getD k 0) (M.getD k 0):=by
 rw [List.drop_eq_getElem_cons h,List.drop_eq_getElem_cons h',lessL,show L.getD k 0=L[k] by simp [h],show M.getD k 0=M[k] by simp [h']]
theorem less_end (L M:List Int)(k:Nat)(h:k≤L.length)(h':k≤M.length)(he:¬ (k<L.length∧k<M.length)):lessL (L.drop k) (M.drop k)=decide (L.length<M.length):=by
 by_cases hk:k<L.length
 ·rw [List.drop_eq_getElem_cons hk,List.drop_eq_nil_of_le (show M.length≤k by omega),lessL]
  exact (decide_eq_false (by omega)).symm
 ·rw [List.drop_eq_nil_of_le (show L.length≤k by omega),lessL,List.length_drop]
  have e:(0<M.length - k)=(L.length<M.length):=propext ⟨fun _=>by omega,fun _=>by omega⟩
  simp only [e]
set_option maxHeartbeats 800000 in
theorem l02Less (v u:Value)(L M:List Int)(w:World)(hL:L.length≤1048576)(hM:M.length≤1048576)(hv:Sl w v L)(hu:Sl w u M) :
  Calls Tryz.prog 80 #[v,u] w fun e w'=>e=.returned (.bool (lessL L M))∧w.grownBy w' none:=by
 obtain⟨a,cap,rfl,ha⟩:=hv
 obtain⟨c,cap',rfl,hc⟩:=hu
 have HA:=hide ha
 have HC:=hide hc
 clear ha hc
 go_enter Tryz.func80,Tryz.ntmps80
 go_wp2
 go_loopw [5] (fun i wr=>∃ k:Nat,k≤L.length∧k≤M.length∧i=.int .i64 k∧Hid (lessL L M=lessL (L.drop k) (M.drop k))∧∃ m,Hid (wr=w.drewN m)) (fun i _=>L.length - (intOf i).toNat)
 case atStart=>exact⟨0,Nat.zero_le _,Nat.zero_le _,rfl,rfl,0,rfl⟩
 case round =>
  obtain⟨k,hk,hk',rfl,ht,m,hg⟩:=hrel
  have hg':=unhide hg
  clear hg
  subst hg'
  by_cases hlt:k<L.length
  ·have hi:(k:Int)<(L.length:Int):=by omega
   by_cases hlt':k<M.length
   ·rcases unhide HA with h | ⟨b,off,rfl,hb,hcb⟩
    ·rw [h] at hlt
     simp at hlt
    rcases unhide HC with h | ⟨d,off',rfl,hd,hcd⟩
    ·rw [h] at hlt'
     simp at hlt'
    have c1:=hcb k hlt
    have c2:=hcd k hlt'
    have hj:(k:Int)<(M.length:Int):=by omega
    have hst:=(unhide ht).trans (less_step L M k hlt hlt')
    clear hcb hcd HA HC ht
    generalize L.getD k 0=x at *
    generalize M.getD k 0=y at *
    by_cases he:x=y
    ·have HS:=hide (hst.trans (if_pos he))
     subst he
     clear hst
     go_wp2
     go_quiet (fail)
     go_wp2
     go_roundw
     case rel=>exact⟨k+1,by omega,by omega,by go_num,HS,_,rfl⟩
     case measure=>simp [intOf];omega
    ·have HS:=hide (hst.trans (if_neg he))
     have he':(x != y)=true:=by simp [he]
     have CB:=hide (fun w'=>lits.specLitBefore x y w')
     clear hst he
     go_wp2
     go_quiet (fail)
     go_wp2
     go_quiet (first | (go_at_call 135;exact (unhide CB _).mono (fun _ _ h=>⟨h.1,_,h.2⟩)))
     go_wp2
     go_ret
     exact⟨ret_bool (unhide HS).symm,grown_trans (grown_trans (r:=none) (grown_drewN w m) (grown_drewN _ _)) (grown_drewN _ _)⟩
   ·have hj:¬ (k:Int)<(M.length:Int):=by omega
    have HS:=hide ((unhide ht).trans (less_end L M k hk hk' (by omega)))
    clear HA HC ht
    go_wp2
    go_ret
    exact⟨ret_bool (by rw [unhide HS]),grown_drewN w m⟩
  ·have hi:¬ (k:Int)<(L.length:Int):=by omega
   have HS:=hide ((unhide ht).trans (less_end L M k hk hk' (by omega)))
   clear HA HC ht
   go_wp2
   go_ret
   exact⟨ret_bool (by rw [unhide HS]),grown_drewN w m⟩
end Go.Proofs.YtnlllcgcaddhmaaGreatDoor.le
namespace Go.Proofs.YtnlllcgcaddhmaaGreatDoor.ro
open lits (okB okB_iff placeI befB placeI_bd)
open le (lessL)
open srt (srt litI)
set_option linter.unusedVariables false
theorem lits8_pad (L:List Int)(h:∀ x∈L,x≠0):lits8 (pad L)=L:=by
 unfold lits8 pad
 rw [List.filter_append]
 have a:L.filter (fun x=>x != 0)=L:=List.filter_eq_self.2 (fun x hx=>by simp [h x hx])
 have b:(List.replicate (24 - L.length) (0:Int)).filter (fun x=>x != 0)=[]:=List.filter_eq_nil_iff.2 (fun x hx=>by simp [(List.mem_replicate.1 hx).2])
 rw [a,b,List.append_nil]
theorem ahead_zero (n:Nat):aheadL (List.replicate n 0) (List.replicate n 0)=false:=by
 induction n with
 | zero=>rfl
 | succ n ih=>rw [List.replicate_succ,aheadL,if_pos rfl,ih]
theorem ahead_less (A:List Int):∀ (B:List Int) (n m:Nat),(∀ x∈A,okB x=true)→(∀ x∈B,okB x=true)→A.length+n=B.length+m→aheadL (A++List.replicate n 0) (B++List.replicate m 0)=lessL A B:=by
 induction A with
 | nil =>
  intro B n m _ hB hl
  cases B with
  | nil =>
   have e:n=m:=by simpa using hl
   subst e
   exact ahead_zero n
  | cons y B =>
   have hy:=okB_iff.1 (hB y (by simp))
   obtain⟨n',rfl⟩:∃ n',n=n'+1:=⟨n - 1,by simp only [List.length_nil,List.length_cons] at hl;omega⟩
   have hp:=placeI_bd y hy.1 hy.2.1 hy.2.2
   rw [List.nil_append,List.replicate_succ,List.cons_append,aheadL,if_neg (fun e=>hy.1 e.symm),lessL]
   have h0:placeI 0 = -2:=rfl
   rw [h0,decide_eq_true (by omega),decide_eq_true (by simp)]
 | cons x A ih =>
  intro B n m hA hB hl
  have hx:=okB_iff.1 (hA x (by simp))
  have hpx:=placeI_bd x hx.1 hx.2.1 hx.2.2
  cases B with
  | nil =>
   obtain⟨m',rfl⟩:∃ m',m=m'+1:=⟨m - 1,by simp only [List.length_nil,List.length_cons] at hl;omega⟩
   rw [List.nil_append,List.replicate_succ,List.cons_append,aheadL,if_neg hx.1,lessL]
   have h0:placeI 0 = -2:=rfl
   rw [h0]
   exact decide_eq_false (by omega)
  | cons y B =>
   rw [List.cons_append,List.cons_append,aheadL,lessL]
   by_cases e:x=y
   ·rw [if_pos e,if_pos e]
    exact ih B n m (fun z hz=>hA z (by simp [hz])) (fun z hz=>hB z (by simp [hz])) (by simp only [List.length_cons] at hl;omega)
   ·rw [if_neg e,if_neg e]
    have ax:=hA x (by simp)
    have ay:=hB y (by simp)
    simp [befB,ax,ay]
end Go.Proofs.YtnlllcgcaddhmaaGreatDoor.ro
namespace Go.Proofs.YtnlllcgcaddhmaaGreatDoor.cs
open lits (okB okB_iff placeI befB placeI_bd)
open le (lessL)
open bset (setOf)
open srt (srt litI okTo)
set_option linter.unusedVariables false
structure Ord {α:Type} (lt:α→α→Bool) (P:α→Prop):Prop where
 irr:∀ x,lt x x=false
 tr:∀ x y z,P x→P y→P z→lt x y=true→lt y z=true→lt x z=true
 tot:∀ x y,P x→P y→x≠y→lt x y=true∨lt y x=true
def Up {α:Type}(lt:α→α→Bool)(M:List α):Prop:=M.Pairwise fun a b=>lt a b=true
theorem same {α:Type}{lt:α→α→Bool}{P:α→Prop}(o:Ord lt P):∀ (A B:List α),Up lt A→Up lt B→(∀ x∈A,P x)→(∀ x∈B,P x)→(∀ x,x∈A↔x∈B)→A=B:=by
 intro A
 induction A with
 | nil =>
  intro B _ _ _ _ h
  cases B with
  | nil=>rfl
  | cons b B=>exact absurd ((h b).2 (by simp)) (by simp)
 | cons a A ih =>
  intro B hA hB pA pB h
  cases B with
  | nil=>exact absurd ((h a).1 (by simp)) (by simp)
  | cons b B =>
   obtain⟨a1,a2⟩:=List.pairwise_cons.1 hA
   obtain⟨b1,b2⟩:=List.pairwise_cons.1 hB
   have e:a=b:=by
    apply Classical.byContradiction
    intro hne
    have h1:a∈B:=by
     rcases List.mem_cons.1 ((h a).1 (by simp)) with e | e
     ·exact absurd e hne
     ·exact e
    have h2:b∈A:=by
     rcases List.mem_cons.1 ((h b).2 (by simp)) with e | e
     ·exact absurd e.symm hne
     ·exact e
    have:=o.tr a b a (pA a (by simp)) (pB b (by simp)) (pA a (by simp)) (a1 b h2) (b1 a h1)
    rw [o.irr] at this
    cases this
   subst e
   rw [ih B a2 b2 (fun x hx=>pA x (by simp [hx])) (fun x hx=>pB x (by simp [hx])) (fun x=>?_)]
   constructor
   ·intro hx
    rcases List.mem_cons.1 ((h x).1 (by simp [hx])) with e | e
    ·subst e
     have:=a1 x hx
     rw [o.irr] at this
     cases this
    ·exact e
   ·intro hx
    rcases List.mem_cons.1 ((h x).2 (by simp [hx])) with e | e
    ·subst e
     have:=b1 x hx
     rw [o.irr] at this
     cases this
    ·exact e
def at_ {α:Type}(lt:α→α→Bool)(M:List α)(c:α):Nat:=(M.takeWhile (lt · c)).length
def ins {α:Type}[DecidableEq α](lt:α→α→Bool)(M:List α)(c:α):List α :=
 if M[at_ lt M c]?=some c then M else M.take (at_ lt M c)++c::M.drop (at_ lt M c)
theorem tk {α:Type}(lt:α→α→Bool)(M:List α)(c:α):M.take (at_ lt M c)=M.takeWhile (lt · c):=by
 unfold at_
 induction M with
 | nil=>rfl
 | cons x M ih =>
  rw [List.takeWhile_cons]
  split
  ·rw [List.length_cons,List.take_succ_cons,ih]
  ·rfl
theorem at_le {α:Type}(lt:α→α→Bool)(M:List α)(c:α):at_ lt M c≤M.length:=by
 unfold at_
 exact (List.takeWhile_sublist _).length_le
theorem ahead {α:Type}{lt:α→α→Bool}{M:List α}{c:α}{x:α}(h:x∈M.take (at_ lt M c)):lt x c=true:=by
 rw [tk] at h
 have:=List.all_takeWhile (p:=(lt · c)) (l:=M)
 rw [List.all_eq_true] at this
 exact this x h
theorem not_ahead {α:Type}{lt:α→α→Bool}{M:List α}{c:α}{x:α}(h:M[at_ lt M c]?=some x):lt x c=false:=by
 unfold at_ at h
 induction M with
 | nil=>cases h
 | cons y M ih =>
  rw [List.takeWhile_cons] at h
  split at h
  ·rw [List.length_cons,List.getElem?_cons_succ] at h
   exact ih h
  ·rename_i hy
   simp at h
   subst h
   simpa using hy
theorem at_go {α:Type}{lt:α→α→Bool}{M:List α}{c:α}{k:Nat}(h:k≤at_ lt M c)(hk:k<M.length):lt M[k] c=true↔k+1≤at_ lt M c:=by
 constructor
 ·intro e
  apply Classical.byContradiction
  intro hn
  have ek:k=at_ lt M c:=by omega
  have:M[at_ lt M c]?=some M[k]:=by rw [←ek];simp [hk]
  rw [not_ahead this] at e
  cases e
 ·intro e
  apply ahead (M:=M)
  rw [List.mem_take_iff_getElem]
  exact⟨k,by have:=at_le lt M c;omega,rfl⟩
theorem ins_mem {α:Type}[DecidableEq α]{lt:α→α→Bool}{M:List α}{c x:α}:x∈ins lt M c↔x∈M∨x=c:=by
 unfold ins
 split
 ·rename_i h
  constructor
  ·exact .inl
  ·rintro (h' | rfl)
   ·exact h'
   ·exact List.mem_of_getElem? h
 ·have e:x∈M↔x∈M.take (at_ lt M c)∨x∈M.drop (at_ lt M c):=by
   rw [←List.mem_append,List.take_append_drop]
  rw [List.mem_append,List.mem_cons,e]
  constructor
  ·rintro (h | h | h)
   ·exact .inl (.inl h)
   ·exact .inr h
   ·exact .inl (.inr h)
  ·rintro ((h | h) | h)
   ·exact .inl h
   ·exact .inr (.inr h)
   ·exact .inr (.inl h)
theorem ins_up {α:Type}[DecidableEq α]{lt:α→α→Bool}{P:α→Prop}(o:Ord lt P){M:List α}{c:α}(hM:Up lt M)(pM:∀ x∈M,P x)(pc:P c):Up lt (ins lt M c):=by
 unfold ins
 split
 ·exact hM
 ·rename_i h
  have hs:Up lt (M.take (at_ lt M c)++M.drop (at_ lt M c)):=by rw [List.take_append_drop];exact hM
  obtain⟨h1,h2,h3⟩:=List.pairwise_append.1 hs
  have hD:∀ x∈M.drop (at_ lt M c),lt c x=true:=by
   cases hd:M.drop (at_ lt M c) with
   | nil=>intro x hx;cases hx
   | cons d D =>
    have hg:M[at_ lt M c]?=some d:=by
     have:(M.drop (at_ lt M c))[0]?=some d:=by rw [hd];rfl
     rwa [List.getElem?_drop,Nat.add_zero] at this
    have hdm:d∈M:=List.mem_of_getElem? hg
    have hcd:lt c d=true:=by
     rcases o.tot c d pc (pM d hdm) (fun e=>h (by rw [hg,e])) with q | q
     ·exact q
     ·rw [not_ahead hg] at q
      cases q
    intro x hx
    rcases List.mem_cons.1 hx with rfl | hx
    ·exact hcd
    ·rw [hd] at h2
     have hxm:x∈M:=List.mem_of_mem_drop (by rw [hd];simp [hx])
     exact o.tr c d x pc (pM d hdm) (pM x hxm) hcd ((List.pairwise_cons.1 h2).1 x hx)
  refine List.pairwise_append.2 ⟨h1,List.pairwise_cons.2 ⟨hD,h2⟩,fun a ha b hb=>?_⟩
  rcases List.mem_cons.1 hb with rfl | hb
  ·exact ahead ha
  ·exact h3 a ha b hb
def insAll {α:Type}[DecidableEq α](lt:α→α→Bool)(M L:List α):List α:=L.foldl (ins lt) M
theorem insAll_mem {α:Type}[DecidableEq α]{lt:α→α→Bool}{x:α}(L:List α):∀ M,x∈insAll lt M L↔x∈M∨x∈L:=by
 induction L with
 | nil=>intro M;simp [insAll]
 | cons c L ih =>
  intro M
  have:=ih (ins lt M c)
  unfold insAll at this ⊢
  rw [List.foldl_cons,this,ins_mem,List.mem_cons]
  constructor
  ·rintro ((h | h) | h)
   ·exact .inl h
   ·exact .inr (.inl h)
   ·exact .inr (.inr h)
  ·rintro (h | h | h)
   ·exact .inl (.inl h)
   ·exact .inl (.inr h)
   ·exact .inr h
theorem insAll_up {α:Type}[DecidableEq α]{lt:α→α→Bool}{P:α→Prop}(o:Ord lt P)(L:List α):∀ M,Up lt M→(∀ x∈M,P x)→(∀ x∈L,P x)→Up lt (insAll lt M L):=by
 induction L with
 | nil=>intro M h _ _;exact h
 | cons c L ih =>
  intro M h pM pL
  unfold insAll
  rw [List.foldl_cons]
  refine ih _ (ins_up o h pM (pL c (by simp))) (fun x hx=>?_) (fun x hx=>pL x (by simp [hx]))
  rcases ins_mem.1 hx with q | rfl
  ·exact pM x q
  ·exact pL _ (by simp)
theorem snoc_ind {α:Type}{p:List α→Prop}(h0:p [])(h1:∀ L c,p L→p (L++[c]))(L:List α):p L:=by
 have h:∀ R:List α,p R.reverse:=by
  intro R
  induction R with
  | nil=>exact h0
  | cons c R ih=>rw [List.reverse_cons];exact h1 _ _ ih
 have:=h L.reverse
 rwa [List.reverse_reverse] at this
def one {α:Type}[DecidableEq α](M:List α)(c:α):List α:=if c∈M then M else M++[c]
def oneAll {α:Type}[DecidableEq α](L:List α):List α:=L.foldl one []
theorem one_mem {α:Type}[DecidableEq α]{M:List α}{c x:α}:x∈one M c↔x∈M∨x=c:=by
 unfold one
 split
 ·rename_i h
  constructor
  ·exact .inl
  ·rintro (h' | rfl)
   ·exact h'
   ·exact h
 ·simp
theorem oneAll_snoc {α:Type}[DecidableEq α](L:List α)(c:α):oneAll (L++[c])=one (oneAll L) c:=by
 unfold oneAll
 rw [List.foldl_append]
 rfl
theorem oneAll_mem {α:Type}[DecidableEq α]{x:α}(L:List α):x∈oneAll L↔x∈L:=by
 refine snoc_ind (p:=fun L=>x∈oneAll L↔x∈L) (by simp [oneAll]) (fun L c ih=>?_) L
 rw [oneAll_snoc,one_mem,ih]
 simp
theorem one_nodup {α:Type}[DecidableEq α]{M:List α}{c:α}(h:M.Nodup):(one M c).Nodup:=by
 unfold one
 split
 ·exact h
 ·rename_i hc
  rw [List.nodup_append]
  refine⟨h,by simp,fun a ha b hb e=>?_⟩
  rw [List.mem_singleton] at hb
  subst hb
  subst e
  exact hc ha
theorem oneAll_nodup {α:Type}[DecidableEq α](L:List α):(oneAll L).Nodup:=by
 refine snoc_ind (p:=fun L=>(oneAll L).Nodup) List.nodup_nil (fun L c ih=>?_) L
 rw [oneAll_snoc]
 exact one_nodup ih
theorem oneAll_len {α:Type}[DecidableEq α](L:List α):(oneAll L).length≤L.length:=by
 refine snoc_ind (p:=fun L=>(oneAll L).length≤L.length) (Nat.le_refl _) (fun L c ih=>?_) L
 rw [oneAll_snoc,List.length_append]
 unfold one
 split
 ·simp;omega
 ·rw [List.length_append];simp;omega
theorem put_up {α:Type}{lt:α→α→Bool}{P:α→Prop}(o:Ord lt P){A B:List α}{c:α}(h:Up lt (A++B))(pA:∀ x∈A,P x)(pB:∀ x∈B,P x)(pc:P c)(hn:c∉A)(hB:∀ b∈B,lt c b=true)(hA:A=[]∨∃ A' a,A=A'++[a]∧lt c a=false):Up lt (A++c::B):=by
 obtain⟨h1,h2,h3⟩:=List.pairwise_append.1 h
 refine List.pairwise_append.2 ⟨h1,List.pairwise_cons.2 ⟨hB,h2⟩,fun x hx y hy=>?_⟩
 rcases List.mem_cons.1 hy with rfl | hy
 ·rcases hA with rfl | ⟨A',a,rfl,hca⟩
  ·cases hx
  ·have pa:=pA a (by simp)
   have hac:lt a y=true:=by
    rcases o.tot a y pa pc (fun e=>hn (by rw [←e];simp)) with q | q
    ·exact q
    ·rw [hca] at q
     cases q
   rcases List.mem_append.1 hx with hx' | hx'
   ·exact o.tr x a y (pA x hx) pa pc ((List.pairwise_append.1 h1).2.2 x hx' a (by simp)) hac
   ·rw [List.mem_singleton] at hx'
    rw [hx']
    exact hac
 ·exact h3 x hx y hy
theorem place_inj {x y:Int}(hx:okB x=true)(hy:okB y=true)(h:placeI x=placeI y):x=y:=by
 have a:=of_decide_eq_true hx
 have b:=of_decide_eq_true hy
 unfold placeI at h
 split at h <;> split at h <;> omega
theorem less_ord:Ord lessL (fun L=>∀ x∈L,okB x=true) where
 irr:=by
  intro x
  induction x with
  | nil=>rfl
  | cons a x ih=>rw [lessL,if_pos rfl,ih]
 tr:=by
  intro A
  induction A with
  | nil =>
   intro B C _ _ _ h1 h2
   cases B with
   | nil=>exact h2
   | cons y B =>
    cases C with
    | nil=>cases h2
    | cons z C=>rfl
  | cons x A ih =>
   intro B C pA pB pC h1 h2
   cases B with
   | nil=>cases h1
   | cons y B =>
    cases C with
    | nil=>cases h2
    | cons z C =>
     have ax:=pA x (by simp)
     have ay:=pB y (by simp)
     have az:=pC z (by simp)
     rw [lessL] at h1 h2 ⊢
     by_cases exy:x=y
     ·rw [if_pos exy] at h1
      subst exy
      by_cases exz:x=z
      ·rw [if_pos exz] at h2 ⊢
       exact ih B C (fun q hq=>pA q (by simp [hq])) (fun q hq=>pB q (by simp [hq])) (fun q hq=>pC q (by simp [hq])) h1 h2
      ·rw [if_neg exz] at h2 ⊢
       exact h2
     ·rw [if_neg exy] at h1
      have k1:placeI x<placeI y:=by simpa [befB,ax,ay] using h1
      by_cases eyz:y=z
      ·subst eyz
       rw [if_neg exy]
       exact h1
      ·rw [if_neg eyz] at h2
       have k2:placeI y<placeI z:=by simpa [befB,ay,az] using h2
       have exz:x≠z:=by
        intro e
        subst e
        omega
       rw [if_neg exz]
       simp [befB,ax,az]
       omega
 tot:=by
  intro A
  induction A with
  | nil =>
   intro B _ _ hne
   cases B with
   | nil=>exact absurd rfl hne
   | cons y B=>exact .inl rfl
  | cons x A ih =>
   intro B pA pB hne
   cases B with
   | nil=>exact .inr rfl
   | cons y B =>
    have ax:=pA x (by simp)
    have ay:=pB y (by simp)
    by_cases e:x=y
    ·subst e
     rw [lessL,if_pos rfl,lessL,if_pos rfl]
     exact ih B (fun q hq=>pA q (by simp [hq])) (fun q hq=>pB q (by simp [hq])) (fun h=>hne (by rw [h]))
    ·rw [lessL,if_neg e,lessL,if_neg (fun h=>e h.symm)]
     have:placeI x≠placeI y:=fun h=>e (place_inj ax ay h)
     simp [befB,ax,ay]
     omega
def good (LL:List (List Int)):List (List Int):=(LL.filter fun c=>okTo (setOf c) 24).map fun c=>srt (setOf c) 48
theorem good_yes {LL:List (List Int)}{k:Nat}(h:k<LL.length)(ho:okTo (setOf (LL.getD k [])) 24=true):good (LL.take (k+1))=good (LL.take k)++[srt (setOf (LL.getD k [])) 48]:=by
 rw [List.take_succ_eq_append_getElem h]
 have e:LL.getD k []=LL[k]:=by simp [h]
 rw [e] at ho ⊢
 unfold good
 rw [List.filter_append,List.map_append,List.filter_cons,if_pos ho]
 rfl
theorem good_no {LL:List (List Int)}{k:Nat}(h:k<LL.length)(ho:okTo (setOf (LL.getD k [])) 24=false):good (LL.take (k+1))=good (LL.take k):=by
 rw [List.take_succ_eq_append_getElem h]
 have e:LL.getD k []=LL[k]:=by simp [h]
 rw [e] at ho
 unfold good
 rw [List.filter_append,List.map_append,List.filter_cons,if_neg (by rw [ho];decide)]
 simp
theorem good_len (LL:List (List Int)):(good LL).length≤LL.length:=by
 unfold good
 rw [List.length_map]
 exact List.length_filter_le _ _
theorem srt_ok (S j:Nat)(h:j≤48):∀ x∈srt S j,okB x=true:=by
 intro x hx
 unfold srt.srt at hx
 obtain⟨p,hp,rfl⟩:=List.mem_map.1 hx
 rw [List.mem_filter,List.mem_range] at hp
 rw [okB_iff]
 unfold srt.litI
 split <;> omega
theorem good_ok {LL:List (List Int)}{c:List Int}(h:c∈good LL):∀ x∈c,okB x=true:=by
 unfold good at h
 obtain⟨d,_,rfl⟩:=List.mem_map.1 h
 exact srt_ok _ 48 (Nat.le_refl _)
theorem good_24 {LL:List (List Int)}{c:List Int}(h:c∈good LL):c.length≤24:=by
 unfold good at h
 obtain⟨d,hd,rfl⟩:=List.mem_map.1 h
 rw [List.mem_filter] at hd
 exact ro.srt_half _ 24 hd.2
def cnfS (LL:List (List Int)):List (List Int):=insAll lessL [] (good LL)
theorem cnfS_step (G:List (List Int))(c:List Int):insAll lessL [] (G++[c])=ins lessL (insAll lessL [] G) c:=by
 unfold insAll
 rw [List.foldl_append]
 rfl
theorem cnfS_up (LL:List (List Int)):Up lessL (cnfS LL):=insAll_up less_ord _ _ List.Pairwise.nil (fun x hx=>by cases hx) (fun x hx=>good_ok hx)
theorem cnfS_mem {LL:List (List Int)}{x:List Int}:x∈cnfS LL↔x∈good LL:=by
 unfold cnfS
 rw [insAll_mem]
 simp
theorem cnfS_of {LL X:List (List Int)}(h:Up lessL X)(hm:∀ x,x∈X↔x∈oneAll (good LL)):X=cnfS LL:=by
 have e:∀ x,x∈X↔x∈good LL:=fun x=>(hm x).trans (oneAll_mem _)
 exact same less_ord X (cnfS LL) h (cnfS_up LL) (fun x hx=>good_ok ((e x).1 hx)) (fun x hx=>good_ok (cnfS_mem.1 hx)) (fun x=>(e x).trans cnfS_mem.symm)
theorem ins_len {M:List (List Int)}{c:List Int}:(ins lessL M c).length≤M.length+1:=by
 unfold ins
 split
 ·omega
 ·rw [List.length_append,List.length_cons,List.length_take,List.length_drop]
  omega
theorem insAll_len (L:List (List Int)):∀ M:List (List Int),(insAll lessL M L).length≤M.length+L.length:=by
 induction L with
 | nil=>intro M;exact Nat.le_refl _
 | cons c L ih =>
  intro M
  have:=ih (ins lessL M c)
  have h2:=ins_len (M:=M) (c:=c)
  unfold insAll at this ⊢
  rw [List.foldl_cons,List.length_cons]
  omega
theorem cnfS_len (LL:List (List Int)):(cnfS LL).length≤LL.length:=by
 have:=insAll_len (good LL) []
 have:=good_len LL
 unfold cnfS
 simp at *
 omega
end Go.Proofs.YtnlllcgcaddhmaaGreatDoor.cs
namespace Go.Proofs.YtnlllcgcaddhmaaGreatDoor.mk
open Go.ChangeShapes Go.WideShapes Go.ChangeAt Go.RowKit Go.MapKept
open sl (hide unhide)
open ro (cells8 size8 at8 pad pad_len lits8 lits8_pad)
open lits (okB okB_iff)
set_option linter.unusedVariables false
theorem laidOut:laidOutB Tryz.prog=true:=by kernel_rfl
theorem rowT:(101:TypeId)<Tryz.prog.types.size:=of_decide_eq_true (by kernel_rfl)
theorem wide:(match Tryz.prog.underlying 101 with | some (.array _ _) | some (.struct _)=>true | _=>false)=true:=by rw [Tryz.underlying101]
set_option maxRecDepth 100000 in
theorem law:WideMaps.KeyLaw Tryz.prog 101:=deep_law_laid laidOut (m:=2) (by omega) rowT (by kernel_rfl) wide
theorem cells24:Tryz.prog.cellsOf 101=24:=by kernel_rfl
theorem cells1:Tryz.prog.cellsOf 99=1:=by kernel_rfl
theorem ktype:Tryz.prog.keyType 101=true:=by kernel_rfl
theorem mapM_some {α β:Type}(f:α→Option β)(l:List α)(h:∀ x∈l,∃ y,f x=some y):∃ ys,l.mapM f=some ys:=by
 induction l with
 | nil=>exact⟨[],rfl⟩
 | cons x l ih =>
  obtain⟨y,hy⟩:=h x (by simp)
  obtain⟨ys,hys⟩:=ih (fun z hz=>h z (by simp [hz]))
  exact⟨y::ys,by simp [List.mapM_cons,hy,hys]⟩
theorem lit_key (d:Nat)(x:Int)(h : -24≤x∧x≤24):Tryz.prog.keyLits (d+1) 99 [.int .i8 x]=some [.int .i8 x]:=by
 unfold Program.keyLits
 rw [Tryz.underlying99]
 have a:IntKind.i8.min = -128:=rfl
 have b:IntKind.i8.max=127:=rfl
 simp [Lit.wf,a,b]
 omega
theorem key_row (R:List Int)(hR:R.length=24)(hb:∀ k,k<24→-24≤R.getD k 0∧R.getD k 0≤24):∃ l,keyOf Tryz.prog 101 (.agg (cells8 R))=some l:=by
 have hf:(Value.agg (cells8 R)).formed Tryz.prog 101=true:=by simp [Value.formed,Tryz.underlying101,cells24,size8,hR]
 have hk:∃ L,Tryz.prog.keyLits (Tryz.prog.types.size+1) 101 (cells8 R).toList=some L:=by
  obtain⟨d,hd⟩:∃ d,Tryz.prog.types.size=d+1:=⟨Tryz.prog.types.size - 1,by have h:(101:Nat)<Tryz.prog.types.size:=rowT;omega⟩
  rw [hd]
  unfold Program.keyLits
  rw [Tryz.underlying101]
  have hl:(cells8 R).toList.length=Tryz.prog.cellsOf 101:=by rw [cells24,Array.length_toList,size8,hR]
  simp only [hl,if_true,cells1,Nat.mul_one]
  obtain⟨ys,hys⟩:=mapM_some (fun i=>Tryz.prog.keyLits (d+1) 99 (((cells8 R).toList.drop i).take 1)) (List.range 24) (fun i hi=>by
   rw [List.mem_range] at hi
   have e:(((cells8 R).toList.drop i).take 1)=[.int .i8 (R.getD i 0)]:=by
    have h1:i<R.length:=by omega
    have h2:(cells8 R).toList=R.map fun x=>Value.int .i8 x:=by simp [ro.cells8]
    rw [h2,←List.map_drop,←List.map_take,List.drop_eq_getElem_cons h1,List.take_succ_cons,List.take_zero,show R.getD i 0=R[i] by simp [h1]]
    rfl
   exact⟨_,by rw [e];exact lit_key d _ (hb i hi)⟩)
  rw [hys]
  exact⟨_,rfl⟩
 obtain⟨L,hL⟩:=hk
 refine⟨.string (keyBytes L),?_⟩
 unfold keyOf
 rw [Tryz.underlying101]
 simp only [ktype,hf,Bool.and_self,if_true]
 show Option.map _ (Tryz.prog.keyLits _ _ (cells8 R).toList)=_
 rw [hL]
 rfl
def key (L:List Int):Value:=.agg (cells8 (pad L))
def Fine (L:List Int):Prop:=L.length≤24∧∀ x∈L,okB x=true
theorem pad_bd {L:List Int}(h:Fine L):∀ k,k<24→-24≤(pad L).getD k 0∧(pad L).getD k 0≤24:=by
 intro k hk
 have hl:=pad_len h.1
 have hm:(pad L).getD k 0∈pad L:=by
  rw [show (pad L).getD k 0=(pad L)[k]'(by omega) by simp [show k<(pad L).length by omega]]
  exact List.getElem_mem _
 generalize (pad L).getD k 0=x at *
 unfold ro.pad at hm
 rcases List.mem_append.1 hm with q | q
 ·have:=okB_iff.1 (h.2 x q)
  omega
 ·have:=(List.mem_replicate.1 q).2
  omega
theorem key_of {L:List Int}(h:Fine L):∃ l,keyOf Tryz.prog 101 (key L)=some l:=key_row (pad L) (pad_len h.1) (pad_bd h)
theorem cells8_inj {R S:List Int}(h:cells8 R=cells8 S):R=S:=by
 have e:R.map (fun x=>Value.int .i8 x)=S.map (fun x=>Value.int .i8 x):=by
  have:=congrArg Array.toList h
  simpa [ro.cells8] using this
 exact (List.map_inj_right (fun a b hab=>by injection hab)).1 e
theorem key_inj {L M:List Int}(hL:Fine L)(hM:Fine M)(h:key L=key M):L=M:=by
 have e:pad L=pad M:=cells8_inj (by injection h)
 have a:=lits8_pad L (fun x hx=>(okB_iff.1 (hL.2 x hx)).1)
 have b:=lits8_pad M (fun x hx=>(okB_iff.1 (hM.2 x hx)).1)
 rw [←a,←b,e]
structure Tells (es:Array MapEntry) (clock:Nat) (G:List (List Int)):Prop where
 stamped:Stamped es clock
 entry:∀ e∈es.toList,∃ L∈G,e.key=key L∧e.val=.int .i64 (G.count L:Nat)
 all:∀ L∈G,∃ e∈es.toList,e.key=key L
 fine:∀ L∈G,Fine L
theorem Tells.start:Tells #[] 0 []:=⟨stamped_empty 0,by simp,by simp,by simp⟩
theorem Tells.keys {es:Array MapEntry}{clock:Nat}{G:List (List Int)}(h:Tells es clock G):∀ e∈es.toList,∃ l,keyOf Tryz.prog 101 e.key=some l:=by
 intro e he
 obtain⟨L,hL,e1,_⟩:=h.entry e he
 rw [e1]
 exact key_of (h.fine L hL)
theorem Tells.look {es:Array MapEntry}{clock:Nat}{G:List (List Int)}(h:Tells es clock G){c:List Int}(hc:Fine c){w:World}{b:Nat}(hb:w.heap[b]?=some (.map es clock)) :
  (Instr.lookup 152 (.map (some b)) (key c) false).run Tryz.prog w=.ok (.int .i64 (G.count c:Nat)) w:=by
 obtain⟨l,hl⟩:=key_of hc
 rcases law.find w hl es.toList h.keys with ⟨h1,h2⟩ | ⟨j,e0,h1,h2,h3⟩
 ·have:G.count c=0:=by
   rw [List.count_eq_zero]
   intro hm
   obtain⟨e,he,ek⟩:=h.all c hm
   exact h2 e he ek
  rw [this]
  simp [Instr.lookup,run_underlying Tryz.underlying152,MapKept.run_getObj_map hb,law.check w _ hl,h1,Result.andThen]
 ·obtain⟨L,hL,k1,k2⟩:=h.entry e0 (List.mem_of_getElem? h2)
  have:L=c:=key_inj (h.fine L hL) hc (by rw [←k1,h3])
  subst this
  simp [Instr.lookup,run_underlying Tryz.underlying152,MapKept.run_getObj_map hb,law.check w _ hl,h1,k2,Result.andThen]
def put (w:World)(b:Nat)(o:Obj):World:={ w with heap:=w.heap.setIfInBounds b o }
theorem put_heap {w:World}{b:Nat}{o o':Obj}(h:w.heap[b]?=some o'):(put w b o).heap[b]?=some o:=(MapKept.heap_set h).1
theorem count_snoc (G:List (List Int))(c L:List Int):(G++[c]).count L=G.count L+if c=L then 1 else 0:=by
 rw [List.count_append,List.count_singleton]
 by_cases e:c=L
 ·subst e
  simp
 ·simp [e]
theorem Tells.more {es:Array MapEntry}{clock:Nat}{G:List (List Int)}(h:Tells es clock G){c:List Int}(hc:Fine c) :
  ∃ (st:Nat) (es1:Array MapEntry) (clock1:Nat) (es2:Array MapEntry) (v0:Value),Tells es2 clock1 (G++[c]) ∧
   (∀ (w:World) (b:Nat),w.heap[b]?=some (.map es clock)→(Instr.mapEntry 152 (.map (some b)) (key c)).run Tryz.prog w=.ok (.tuple #[v0,goInt st]) (put w b (.map es1 clock1))) ∧
   (∀ (w:World) (b:Nat),w.heap[b]?=some (.map es1 clock1)→(Instr.entryStore 152 (.map (some b)) (goInt st) (.int .i64 ((G.count c:Nat)+1))).run Tryz.prog w=.ok () (put w b (.map es2 clock1))) ∧
   (∀ (w:World) (b:Nat),w.heap[b]?=some (.map es1 clock1)→(Instr.lookup 152 (.map (some b)) (key c) false).run Tryz.prog w=.ok (.int .i64 (G.count c:Nat)) w):=by
 obtain⟨l,hl⟩:=key_of hc
 obtain⟨s1,s2,s3⟩:=h.stamped
 by_cases hm:c∈G
 ·-- there already
  obtain⟨e0,he0,ek⟩:=h.all c hm
  obtain⟨j,hj⟩:=List.mem_iff_getElem?.1 he0
  have hcount:e0.val=.int .i64 (G.count c:Nat):=by
   obtain⟨L,hL,k1,k2⟩:=h.entry e0 he0
   have:L=c:=key_inj (h.fine L hL) hc (by rw [←k1,ek])
   rw [k2,this]
  have hfind:∀ w,(Instr.findKey 101 (key c) es.toList).run Tryz.prog w=.ok (some (j,e0.val)) w:=by
   intro w
   rcases law.find w hl es.toList h.keys with ⟨h1,h2⟩ | ⟨j',e',h1,h2,h3⟩
   ·exact absurd ek (h2 e0 he0)
   ·have hjj:j'=j:=by
     have n3:=s3
     apply Classical.byContradiction
     intro hne
     have a1:(es.toList.map (·.key))[j']?=some (key c):=by rw [List.getElem?_map,h2];simp [h3]
     have a2:(es.toList.map (·.key))[j]?=some (key c):=by rw [List.getElem?_map,hj];simp [ek]
     have l1:j'<(es.toList.map (·.key)).length:=(List.getElem?_eq_some_iff.1 a1).1
     exact hne ((List.getElem?_inj l1 n3).1 (a1.trans a2.symm))
    subst hjj
    have:e'=e0:=Option.some.inj (h2.symm.trans hj)
    rw [←this]
    exact h1
  have hjA:es[j]?=some e0:=by simpa using hj
  have hsame:es.modify j (fun e=>{ e with key:=key c })=es:=by
   apply Array.ext'
   rw [Array.toList_modify,ChangeMaps.modify_eq_set _ _ _ _ hj]
   have:({ e0 with key:=key c }:MapEntry)=e0:=by rw [←ek]
   rw [this]
   exact WideElems.set_self _ _ _ hj
  refine⟨e0.born,es,clock,es.modify j (fun e=>{ e with val:=.int .i64 ((G.count c:Nat)+1) }),e0.val,⟨?_,?_,?_,?_⟩,?_,?_,?_⟩
  ·exact stamped_modify h.stamped j _ (fun _ _=>rfl) (fun _ _ _=>rfl)
  ·intro e he
   rw [Array.toList_modify,ChangeMaps.modify_eq_set _ _ _ _ hj] at he
   rcases List.mem_or_eq_of_mem_set he with q | q
   ·obtain⟨i,hi⟩:=List.mem_iff_getElem?.1 he
    by_cases hij:j=i
    ·subst hij
     rw [List.getElem?_set_self (List.getElem?_eq_some_iff.1 hj).1] at hi
     have:=Option.some.inj hi
     subst this
     exact⟨c,by simp,ek,by simp⟩
    ·rw [List.getElem?_set_ne hij] at hi
     obtain⟨L,hL,k1,k2⟩:=h.entry e (List.mem_of_getElem? hi)
     refine⟨L,by simp [hL],k1,?_⟩
     have hne:c≠L:=by
      intro e1
      subst e1
      have a1:(es.toList.map (·.key))[i]?=some (key c):=by rw [List.getElem?_map,hi];simp [k1]
      have a2:(es.toList.map (·.key))[j]?=some (key c):=by rw [List.getElem?_map,hj];simp [ek]
      have l1:i<(es.toList.map (·.key)).length:=(List.getElem?_eq_some_iff.1 a1).1
      exact hij ((List.getElem?_inj l1 s3).1 (a1.trans a2.symm)).symm
     rw [k2,count_snoc,if_neg hne,Nat.add_zero]
   ·subst q
    exact⟨c,by simp,ek,by simp⟩
  ·intro L hL
   have hL':L∈G:=by
    rcases List.mem_append.1 hL with q | q
    ·exact q
    ·rw [List.mem_singleton] at q
     rw [q]
     exact hm
   obtain⟨e,he,ke⟩:=h.all L hL'
   obtain⟨i,hi⟩:=List.mem_iff_getElem?.1 he
   rw [Array.toList_modify,ChangeMaps.modify_eq_set _ _ _ _ hj]
   by_cases hij:j=i
   ·subst hij
    have:e=e0:=Option.some.inj (hi.symm.trans hj)
    subst this
    exact⟨_,List.mem_of_getElem? (i:=j) (List.getElem?_set_self (List.getElem?_eq_some_iff.1 hj).1),ke⟩
   ·exact⟨e,List.mem_of_getElem? (i:=i) (by rw [List.getElem?_set_ne hij];exact hi),ke⟩
  ·intro L hL
   rcases List.mem_append.1 hL with q | q
   ·exact h.fine L q
   ·rw [List.mem_singleton] at q
    rw [q]
    exact hc
  ·intro w b hb
   simp [Instr.mapEntry,run_underlying Tryz.underlying152,MapKept.run_getObj_map hb,law.check w false hl,hfind,hjA,ek,law.stays w hl,hsame,MapKept.run_setObj_map _ hb,Result.andThen,put]
  ·intro w b hb
   have hidx:es.findIdx? (fun e=>((e.born:Nat):Int) == ((e0.born:Nat):Int))=some j:=by
    rw [WideElems.findIdx_arr]
    exact WideElems.findIdx_born s2 hj
   simp [Instr.entryStore,MapKept.run_getObj_map hb,asInt,asIntOf,goInt,hidx,MapKept.run_setObj_map _ hb,Result.andThen,put]
  ·intro w b hb
   exact h.look hc hb
 ·-- new
  have h0:G.count c=0:=List.count_eq_zero.2 hm
  have hnew:∀ x∈es.toList,x.key≠key c:=by
   intro x hx e
   obtain⟨L,hL,k1,k2⟩:=h.entry x hx
   exact hm (key_inj (h.fine L hL) hc (by rw [←k1,e]) ▸ hL)
  have hfind:∀ w,(Instr.findKey 101 (key c) es.toList).run Tryz.prog w=.ok none w:=by
   intro w
   rcases law.find w hl es.toList h.keys with ⟨h1,h2⟩ | ⟨j',e',h1,h2,h3⟩
   ·exact h1
   ·exact absurd h3 (hnew e' (List.mem_of_getElem? h2))
  have st1:=stamped_push h.stamped (val:=.int .i64 0) hnew
  have keys1:∀ e∈(es.push ⟨key c,.int .i64 0,clock⟩).toList,∃ l,keyOf Tryz.prog 101 e.key=some l:=by
   intro e he
   simp only [Array.toList_push,List.mem_append,List.mem_singleton] at he
   rcases he with he | rfl
   ·exact h.keys e he
   ·exact⟨l,hl⟩
  refine⟨clock,es.push ⟨key c,.int .i64 0,clock⟩,clock+1,es.push ⟨key c,.int .i64 ((G.count c:Nat)+1),clock⟩,.int .i64 0,⟨?_,?_,?_,?_⟩,?_,?_,?_⟩
  ·exact stamped_push h.stamped hnew
  ·intro e he
   simp only [Array.toList_push,List.mem_append,List.mem_singleton] at he
   rcases he with he | rfl
   ·obtain⟨L,hL,k1,k2⟩:=h.entry e he
    have hne:c≠L:=fun e1=>hm (e1 ▸ hL)
    exact⟨L,by simp [hL],k1,by rw [k2,count_snoc,if_neg hne,Nat.add_zero]⟩
   ·exact⟨c,by simp,rfl,by simp⟩
  ·intro L hL
   rcases List.mem_append.1 hL with q | q
   ·obtain⟨e,he,ke⟩:=h.all L q
    exact⟨e,by simp only [Array.toList_push,List.mem_append];exact .inl he,ke⟩
   ·rw [List.mem_singleton] at q
    subst q
    exact⟨_,by simp only [Array.toList_push,List.mem_append,List.mem_singleton];exact .inr rfl,rfl⟩
  ·intro L hL
   rcases List.mem_append.1 hL with q | q
   ·exact h.fine L q
   ·rw [List.mem_singleton] at q
    rw [q]
    exact hc
  ·intro w b hb
   simp [Instr.mapEntry,run_underlying Tryz.underlying152,MapKept.run_getObj_map hb,law.check w false hl,hfind,MapKept.run_setObj_map _ hb,Result.andThen,put]
  ·intro w b hb
   have hidx:(es.push ⟨key c,.int .i64 0,clock⟩).findIdx? (fun e=>((e.born:Nat):Int) == ((clock:Nat):Int))=some es.size:=by
    rw [WideElems.findIdx_arr]
    exact WideElems.findIdx_born (l:=(es.push ⟨key c,.int .i64 0,clock⟩).toList) (j:=es.size) (e0:=⟨key c,.int .i64 0,clock⟩) st1.2.1 (by simp)
   have hmod:(es.push ⟨key c,.int .i64 0,clock⟩).modify es.size (fun e=>{ e with val:=.int .i64 ((G.count c:Nat)+1) })=es.push ⟨key c,.int .i64 ((G.count c:Nat)+1),clock⟩:=by
    apply Array.ext'
    rw [Array.toList_modify,Array.toList_push,Array.toList_push,←Array.length_toList,WideElems.modify_last]
   simp [Instr.entryStore,MapKept.run_getObj_map hb,asInt,asIntOf,goInt,hidx,hmod,MapKept.run_setObj_map _ hb,Result.andThen,put]
  ·intro w b hb
   rcases law.find w hl (es.push ⟨key c,.int .i64 0,clock⟩).toList keys1 with ⟨h1,h2⟩ | ⟨j',e',h1,h2,h3⟩
   ·exact absurd rfl (h2 ⟨key c,.int .i64 0,clock⟩ (by simp))
   ·have hv:e'.val=.int .i64 0:=by
     have he:=List.mem_of_getElem? h2
     simp only [Array.toList_push,List.mem_append,List.mem_singleton] at he
     rcases he with he | rfl
     ·exact absurd h3 (hnew e' he)
     ·rfl
    rw [h0]
    rw [Array.toList_push] at h1
    simp [Instr.lookup,run_underlying Tryz.underlying152,MapKept.run_getObj_map hb,law.check w _ hl,h1,hv,Result.andThen]
end Go.Proofs.YtnlllcgcaddhmaaGreatDoor.mk
namespace Go.Proofs.YtnlllcgcaddhmaaGreatDoor.rws
open Go.ChangeShapes Go.WideShapes Go.ChangeAt Go.RowKit
open sl (Sl Own ints hide unhide grown_refl grown_trans grown_drewN below_of of_below)
open css (Sls tot)
open ro (cells8 size8 pad pad_len one8 infoRow)
open mk (Fine Tells key put)
open cs (good one oneAll oneAll_snoc oneAll_mem)
open bset (setOf setOf_lt)
open srt (srt okTo Tab)
set_option linter.unusedVariables false
def cellsR (X:List (List Int)):List Value:=X.flatMap fun L=>(cells8 (pad L)).toList
theorem cellsR_len (X:List (List Int))(h:∀ L∈X,L.length≤24):(cellsR X).length=X.length*24:=by
 unfold cellsR
 induction X with
 | nil=>rfl
 | cons L X ih =>
  rw [List.flatMap_cons,List.length_append,Array.length_toList,size8,pad_len (h L (by simp)),ih (fun M hM=>h M (by simp [hM])),List.length_cons]
  omega
theorem cs_len (G:List (List Int)):(oneAll G).length≤G.length:=cs.oneAll_len G
theorem cellsR_snoc (X:List (List Int))(c:List Int):cellsR (X++[c])=cellsR X++(cells8 (pad c)).toList:=by
 unfold cellsR
 rw [List.flatMap_append]
 simp
theorem infoR:(Tryz.prog.info? 101).map (fun i=>(i.zero,i.size,i.bytes))=some (some (.agg (cells8 (pad []))),24,24):=by kernel_rfl
theorem grown_past {a b c:World}{B:Nat}(g:a.grownBy b none)(k:b.grownBy c (some B))(hB:a.heap.size≤B):a.grownBy c none :=
 ⟨k.os.trans g.os,k.tape.trans g.tape,k.output.trans g.output,Nat.le_trans g.size k.size,fun j hj _=>(k.block j (Nat.lt_of_lt_of_le hj g.size) (fun e=>by injection e;omega)).trans (g.block j hj (fun e=>by cases e))⟩
theorem put_grown (w:World)(b:Nat)(o:Obj):w.grownBy (put w b o) (some b) :=
 ⟨rfl,rfl,rfl,by simp [mk.put],fun j hj hne=>by
  have:j≠b:=fun e=>hne (by rw [e])
  simp [mk.put,Ne.symm this]⟩
theorem put_other {w:World}{b c:Nat}{o:Obj}(h:c≠b):(put w b o).heap[c]?=w.heap[c]?:=by
 simp [mk.put,Ne.symm h]
theorem row_kept {w w':World}{lo n z:Nat}{t:TypeId}{v:Value}{xs:List Value}(h:w.ownsRow lo t z v n xs)(g:w.grownBy w' none):w'.ownsRow lo t z v n xs:=h.kept g (by
 cases hv:v.ownBlock
 ·exact .inl rfl
 ·exact .inr (fun e=>by cases e))
theorem row_new (w:World)(Z C:Array Value):w.grownBy ((w.alloc (.cells Z 101)).setRow w.heap.size C) none:=by
 have g:=World.grownBy_alloc w (.cells Z 101) none
 refine⟨g.os,g.tape,g.output,by simp,fun j hj _=>?_⟩
 rw [setRow_other _ _ _ _ (show j≠w.heap.size by omega)]
 exact g.block j hj (fun e=>by cases e)
theorem grown_appR {w w1 w2:World}{o:Obj}{v:Value}{n z:Nat}{xs:List Value}{t:TypeId}(g:w.grownBy w1 none)(hw:w1.ownsRow w.heap.size t z v n xs)(g1:(w1.alloc o).grownBy w2 v.ownBlock):w.grownBy w2 none:=by
 have hgA:w.grownBy (w1.alloc o) none:=grown_trans g (World.grownBy_alloc w1 o none)
 exact⟨g1.os.trans hgA.os,g1.tape.trans hgA.tape,g1.output.trans hgA.output,Nat.le_trans hgA.size g1.size,fun k hk _=>by
  rw [g1.block k (Nat.lt_of_lt_of_le hk hgA.size) (fun e=>by have:=(hw.lt k e.symm).1;omega)]
  exact hgA.block k hk (fun e=>by cases e)⟩
structure Mid (w wr:World) (B:Nat) (u:Value) (X G:List (List Int)):Prop where
 g:w.grownBy wr none
 own:wr.ownsRow w.heap.size 101 24 u X.length (cellsR X)
 map:∃ es clock,wr.heap[B]?=some (.map es clock)∧Tells es clock G
 bB:w.heap.size≤B
theorem Mid.kept {w wr w1:World}{B:Nat}{u:Value}{X G:List (List Int)}(h:Mid w wr B u X G)(g:wr.grownBy w1 none):Mid w w1 B u X G:=by
 refine⟨grown_trans (r:=none) h.g g,row_kept h.own g,?_,h.bB⟩
 obtain⟨es,clock,hb,ht⟩:=h.map
 exact⟨es,clock,(g.block B (Array.getElem?_eq_some_iff.1 hb).1 (fun e=>by cases e)).trans hb,ht⟩
theorem Mid.row {w wr:World}{B:Nat}{u:Value}{X G:List (List Int)}{Z C:Array Value}(h:Mid w wr B u X G):Mid w ((wr.alloc (.cells Z 101)).setRow wr.heap.size C) B u X G :=
 h.kept (row_new wr Z C)
theorem range_put {w:World}{b B o:Nat}{ob:Obj}{cs:List Value}(h:w.rangeAt b o cs)(hne:b≠B):(put w B ob).rangeAt b o cs:=by
 intro j v hv
 have:=h j v hv
 unfold World.cell? at this ⊢
 rw [put_other hne]
 exact this
theorem own_put {w:World}{lo n z B:Nat}{t:TypeId}{v:Value}{xs:List Value}{es:Array MapEntry}{clock:Nat}(h:w.ownsRow lo t z v n xs)(hb:w.heap[B]?=some (.map es clock))(ob:Obj):(put w B ob).ownsRow lo t z v n xs:=by
 refine h.kept (put_grown w B ob) ?_
 obtain⟨_,h2⟩:=h
 rcases h2 with ⟨rfl,_⟩ | ⟨g,cap,cur,rfl,_,hg,_⟩
 ·exact .inl rfl
 ·refine .inr (fun e=>?_)
  injection e with e
  dsimp only at e
  rw [e,hb] at hg
  cases hg
theorem Mid.more {w wr:World}{B:Nat}{u:Value}{X G:List (List Int)}{c:List Int}{es es1 es2:Array MapEntry}{clock clock1:Nat}(h:Mid w wr B u X G)(hb:wr.drew.heap[B]?=some (.map es clock))(ht:Tells es2 clock1 (G++[c])) :
  Mid w (put (put wr.drew B (.map es1 clock1)) B (.map es2 clock1)) B u X (G++[c]):=by
 have k:=h.kept (cf.grown_drew wr none)
 have h1:=mk.put_heap (o:=.map es1 clock1) hb
 refine⟨grown_past (grown_past k.g (put_grown _ B _) h.bB) (put_grown _ B _) h.bB,own_put (own_put k.own hb _) h1 _,⟨es2,clock1,mk.put_heap h1,ht⟩,h.bB⟩
theorem B_row {ops:Array Oper}{rest:List Oper}{o:Oper}{a:Act}{w:World}{Q:Exit→Act→World→Prop}{C:Array Value}(hC:C.size=24)(hg:o.guard=none)(x:Operand)(ho:o.op=.buildSlice 95 1 #[(0,x)])(hx:a.eval x=.agg C)
  (h:wpList Tryz.prog ops Q rest (a.put o.dst (.slice (some ⟨w.heap.size,0,none⟩) 1 1)) (w.alloc (.cells C 101))):wpList Tryz.prog ops Q (o::rest) a w:=by
 obtain⟨i0,hi,hz0,hz1,hz2⟩:=info_parts infoR
 have hf:Instr.fill (fun i=>some (i*i0.size,i0.size)) ((Array.range (1*i0.size)).map ((Value.agg (cells8 (pad []))).cells[· % (Value.agg (cells8 (pad []))).cells.size]!)) (#[(0,x)].map fun (p:Nat × Operand)=>(p.1,a.eval p.2)).toList=some C:=by
  rw [hz1]
  have:=Go.Great.fill_whole (s:=24) (by decide) [.agg C] ((Array.range (1*24)).map ((Value.agg (cells8 (pad []))).cells[· % (Value.agg (cells8 (pad []))).cells.size]!)) (by intro v hv;rw [List.mem_singleton] at hv;rw [hv];exact hC) (by simp)
  simpa [hx,Value.cells] using this
 exact wpList_buildSlice hg 95 101 1 #[(0,x)] ho C i0 (.agg (cells8 (pad []))) Tryz.underlying95 hi hz0 (by rw [hz1];decide) (by rw [hz1];decide) hf h
theorem appendW {ops:Array Oper}{rest:List Oper}{o:Oper}{a:Act}{Q:Exit→Act→World→Prop}{w wr:World}{B:Nat}{u:Value}{X G:List (List Int)}{c:List Int}{C:Array Value}(hC:cells8 (pad c)=C)(hc:Fine c)
  (h:Mid w wr B u X G) (hX:X.length≤1048576) (hgd:o.guard=none) (p x:Operand)
  (ho:o.op=.call { callee:=.builtin .append,args:=#[p,x],argTypes:=#[95,95] }) (hs:a.eval p=u) (hx:a.eval x=.slice (some ⟨wr.heap.size,0,none⟩) 1 1)
  (hK:∀ v' w1,Mid w w1 B v' (X++[c]) G→wpList Tryz.prog ops Q rest (a.put o.dst v') w1) :
  wpList Tryz.prog ops Q (o::rest) a (wr.alloc (.cells C 101)):=by
 subst hC
 obtain⟨i0,hi,hz0,hz1,hz2⟩:=info_parts infoR
 have hz:=h.g.size
 refine wpList_append_own _ hgd p x 95 ho w.heap.size 101 i0 (.agg (cells8 (pad []))) 24 24 Tryz.underlying95 hi hz0 hz1 hz2 (by rw [Value.cells,size8];rfl) (by decide) u X.length (cellsR X) hs (h.own.alloc _) ⟨wr.heap.size,0,none⟩ 1 1 (cells8 (pad c)).toList hx (by rw [Array.length_toList,size8,pad_len hc.1]) ?_ ?_ ?_ ?_ ?_ ?_
 ·intro j v hj
  rw [Addr.add_lit,Nat.zero_add,cell_of_row _ _ j (cells8 (pad c)) _ _ (Go.heap_alloc_new wr _)]
  simpa using hj
 ·intro v hv
  have:=one8 (pad c)
  rw [Array.all_eq_true_iff_forall_mem] at this
  exact this v (by simpa using hv)
 ·unfold maxLen
  omega
 ·omega
 ·simp
  omega
 ·intro v' w1 hown' hgrow _
  refine hK v' w1 ⟨grown_appR h.g h.own hgrow,?_,?_,h.bB⟩
  ·rw [List.length_append,cellsR_snoc]
   exact hown'
  ·obtain⟨es,clock,hb,ht⟩:=h.map
   refine⟨es,clock,?_,ht⟩
   have hlt:=(Array.getElem?_eq_some_iff.1 hb).1
   rw [hgrow.block B (by simp;omega) (fun e=>?_),Go.heap_alloc_old _ _ hlt,hb]
   obtain⟨cu,fz,hk⟩:=css.own_kind h.own B e.symm
   rw [hb] at hk
   cases hk
theorem Mid.start {w w1:World}{u:Value}{LL:List (List Int)}(ho:w1.ownsRow w.heap.size 101 24 u 0 [])(g:w.grownBy w1 none):Mid w (w1.alloc (.map #[] 0)) w1.heap.size u (oneAll (good (LL.take 0))) (good (LL.take 0)) :=
 ⟨grown_trans (r:=none) g (World.grownBy_alloc _ _ _),ho.alloc _,⟨#[],0,Go.heap_alloc_new _ _,Tells.start⟩,g.size⟩
set_option maxRecDepth 10000 in
set_option maxHeartbeats 1600000 in
theorem rowsOf (v:Value)(LL:List (List Int))(w:World)(hT:Tab w)(hn:tot LL≤1048576)(hv:Sls w v LL) :
  Calls Tryz.prog 69 #[v] w fun e w'=>∃ u,e=.returned u∧w'.ownsRow w.heap.size 101 24 u (oneAll (good LL)).length (cellsR (oneAll (good LL)))∧w.grownBy w' none:=by
 have hl:=Nat.le_trans (css.tot_len LL) hn
 obtain⟨a,cap,rfl,ha⟩:=hv
 obtain⟨i0,hi,hz0,hz1,hz2⟩:=info_parts infoR
 have HA:=hide ha
 have HT:=hide hT
 have hmm:∀ (x:Int) (w:World),(Instr.makeMap 152 (some (.int .i64 x))).run Tryz.prog w=.ok (.map (some w.heap.size)) (w.alloc (.map #[] 0)):=fun x w=>by
  simp [Instr.makeMap,run_underlying Tryz.underlying152,asInt,asIntOf,Result.andThen,go_sem]
 clear ha hT
 go_enter Tryz.func69,Tryz.ntmps69
 go_wp2_with (first | (at_make;refine wpList_make_own _ rfl _ _ 95 rfl w.heap.size 101 i0 (.agg (cells8 (pad []))) 24 Tryz.underlying95 hi hz0 hz1 _ _ _ LL.length rfl rfl (by rfl) ?b1 ?b2 ?b3 ?_) | go_in)
 case b1=>rw [hz2];omega
 case b2=>unfold maxLen;omega
 case b3=>exact Nat.le_refl _
 intro w1 hown hgrow
 have ST:Hid (Mid w (w1.alloc (.map #[] 0)) w1.heap.size _ (oneAll (good (LL.take 0))) (good (LL.take 0))):=Mid.start hown hgrow
 have hB:w.heap.size≤w1.heap.size:=hgrow.size
 clear hown hgrow
 go_wp2_with fail
 generalize w1.heap.size=B at *
 go_loopw [3,17] (fun u i wr=>∃ k:Nat,k≤LL.length∧i=.int .i64 k∧Hid (Mid w wr B u (oneAll (good (LL.take k))) (good (LL.take k)))) (fun _ i _=>LL.length - (intOf i).toNat)
 case atStart=>exact⟨0,Nat.zero_le _,rfl,ST⟩
 case round =>
  obtain⟨k,hk,rfl,hm⟩:=hrel
  clear ST hmm
  by_cases hlt:k<LL.length
  ·rcases unhide HA with h | ⟨b,off,rfl,hb,hcb⟩
   ·rw [h] at hlt
    simp at hlt
   ·obtain⟨u,hu,hs⟩:=hcb k hlt
    have hg:=(unhide hm).g
    have c1:wr.cell? ⟨b,off+k,none⟩=some u:=hg.cell hu (fun e=>by cases e)
    have hi':(k:Int)<(LL.length:Int):=by omega
    have hL:=Nat.le_trans (css.tot_in LL k) hn
    have gy:=cs.good_yes (LL:=LL) hlt
    have gn:=cs.good_no (LL:=LL) hlt
    have gl:=Nat.le_trans (cs.good_len (LL.take k)) (by rw [List.length_take];exact Nat.min_le_left _ _)
    have TK:=hide ((unhide HT).kept hg)
    generalize LL.getD k []=L at *
    have C:=hide (bset.litsOf u L wr hL (hs.kept hg (.inl rfl)))
    have CC:=hide (srt.clashes (setOf L) wr (setOf_lt L))
    clear hcb HA hs hu hg
    cases ho:okTo (setOf L) 24
    ·have HG:=hide (gn ho)
     rw [ho] at CC
     clear gy gn
     go_wp2_with fail
     refine (unhide C).mono ?_;rintro e w2 ⟨rfl,hw⟩;have hw':=hw.symm;clear hw C;subst hw'
     go_wp2_with fail
     refine (unhide CC).mono ?_;rintro e w2 ⟨rfl,hw⟩;have hw':=hw.symm;clear hw CC;subst hw'
     go_wp2_with fail
     go_roundw
     case rel=>exact⟨k+1,by omega,by go_num,by rw [unhide HG];exact unhide hm⟩
     case measure=>simp [intOf];omega
    ·have HG:=hide (gy ho)
     have CR:=hide (ro.rowOf (setOf L) wr (unhide TK) (setOf_lt L) ho)
     have hF:Fine (srt (setOf L) 48):=⟨ro.srt_half _ 24 ho,cs.srt_ok _ 48 (Nat.le_refl _)⟩
     have HF:=hide hF
     rw [ho] at CC
     clear gy gn hF
     generalize srt (setOf L) 48=c at *
     generalize good (LL.take k)=G at *
     go_wp2_with fail
     refine (unhide C).mono ?_;rintro e w2 ⟨rfl,hw⟩;have hw':=hw.symm;clear hw C;subst hw'
     go_wp2_with fail
     refine (unhide CC).mono ?_;rintro e w2 ⟨rfl,hw⟩;have hw':=hw.symm;clear hw CC;subst hw'
     go_wp2_with fail
     refine (unhide CR).mono ?_;rintro e w2 ⟨rfl,g2⟩
     have M2:=hide ((unhide hm).kept g2)
     clear hm g2 CR TK
     have hr:=Go.heap_alloc_new w2 (.cells #[.int .i8 0,.int .i8 0,.int .i8 0,.int .i8 0,.int .i8 0,.int .i8 0,.int .i8 0,.int .i8 0,.int .i8 0,.int .i8 0,.int .i8 0,.int .i8 0,.int .i8 0,.int .i8 0,.int .i8 0,.int .i8 0,.int .i8 0,.int .i8 0,.int .i8 0,.int .i8 0,.int .i8 0,.int .i8 0,.int .i8 0,.int .i8 0] 101)
     have h24:(cells8 (pad c)).size=24:=by rw [size8,pad_len (unhide HF).1]
     have hsz:=infoRow
     rw [←h24] at hsz
     have hone:(cells8 (pad c)).all (·.oneCell')=true:=one8 (pad c)
     have M3:=hide (Mid.row (Z:=#[.int .i8 0,.int .i8 0,.int .i8 0,.int .i8 0,.int .i8 0,.int .i8 0,.int .i8 0,.int .i8 0,.int .i8 0,.int .i8 0,.int .i8 0,.int .i8 0,.int .i8 0,.int .i8 0,.int .i8 0,.int .i8 0,.int .i8 0,.int .i8 0,.int .i8 0,.int .i8 0,.int .i8 0,.int .i8 0,.int .i8 0,.int .i8 0]) (C:=cells8 (pad c)) (unhide M2))
     have hg3:=setRow_heap (w2.alloc (.cells #[.int .i8 0,.int .i8 0,.int .i8 0,.int .i8 0,.int .i8 0,.int .i8 0,.int .i8 0,.int .i8 0,.int .i8 0,.int .i8 0,.int .i8 0,.int .i8 0,.int .i8 0,.int .i8 0,.int .i8 0,.int .i8 0,.int .i8 0,.int .i8 0,.int .i8 0,.int .i8 0,.int .i8 0,.int .i8 0,.int .i8 0,.int .i8 0] 101)) w2.heap.size _ (cells8 (pad c)) _ _ hr
     have HC:=hide (show key c=.agg (cells8 (pad c)) from rfl)
     have hlt2:w2.heap.size<((w2.alloc (.cells #[.int .i8 0,.int .i8 0,.int .i8 0,.int .i8 0,.int .i8 0,.int .i8 0,.int .i8 0,.int .i8 0,.int .i8 0,.int .i8 0,.int .i8 0,.int .i8 0,.int .i8 0,.int .i8 0,.int .i8 0,.int .i8 0,.int .i8 0,.int .i8 0,.int .i8 0,.int .i8 0,.int .i8 0,.int .i8 0,.int .i8 0,.int .i8 0] 101)).setRow w2.heap.size (cells8 (pad c))).heap.size:=by simp
     have HG3:=hide hg3
     have HLT:=hide hlt2
     clear hg3 hlt2
     generalize hCC:cells8 (pad c)=C at *
     go_wp2_with (refine wpList_store_row rfl 101 _ _ rfl w2.heap.size C rfl rfl 101 _ hr hsz ?_ ?_ ?_)
     ·rw [h24]
      rfl
     ·exact hone
     generalize hW3:(w2.alloc (.cells #[.int .i8 0,.int .i8 0,.int .i8 0,.int .i8 0,.int .i8 0,.int .i8 0,.int .i8 0,.int .i8 0,.int .i8 0,.int .i8 0,.int .i8 0,.int .i8 0,.int .i8 0,.int .i8 0,.int .i8 0,.int .i8 0,.int .i8 0,.int .i8 0,.int .i8 0,.int .i8 0,.int .i8 0,.int .i8 0,.int .i8 0,.int .i8 0] 101)).setRow w2.heap.size C=w3 at *
     clear hr M2
     obtain⟨es,clock,hmb,ht⟩:=(unhide M3).map
     obtain⟨st,es1,clock1,es2,v0,ht2,hE,hS,hK⟩:=ht.more (unhide HF)
     have hmd:w3.drew.heap[B]?=some (.map es clock):=hmb
     have l1:=ht.look (unhide HF) hmd
     have e1:=hE w3.drew B hmd
     have l2:=hK (put w3.drew B (.map es1 clock1)) B (mk.put_heap hmd)
     have s1:=hS (put w3.drew B (.map es1 clock1)) B (mk.put_heap hmd)
     rw [unhide HC] at l1 e1 l2
     have hcn:(G.count c:Nat)≤1048576:=Nat.le_trans (List.count_le_length) (Nat.le_trans gl (by omega))
     obtain⟨cs,hcs⟩:∃ cs,cs=C.toList:=⟨_,rfl⟩
     have hrg:w3.rangeAt w2.heap.size 0 cs:=by
      rw [hcs]
      intro j v hv
      rw [Nat.zero_add,cell_of_row _ _ j C _ _ (unhide HG3)]
      simpa using hv
     have hC:cs.toArray=C:=by rw [hcs]
     have hu:=Tryz.underlying101
     have hi2:(Tryz.prog.info? 101).map (·.size)=some cs.length:=by rw [hcs,Array.length_toList];exact hsz
     have h24':cs.length=24:=by rw [hcs,Array.length_toList];exact h24
     have hone':∀ v∈cs,v.oneCell'=true:=by
      rw [hcs]
      intro v hv
      rw [Array.all_eq_true_iff_forall_mem] at hone
      exact hone v (by simpa using hv)
     have hX1:(oneAll G).length≤1048576:=Nat.le_trans (cs_len G) (Nat.le_trans gl (by omega))
     clear hcs hsz hone
     subst hC
     have hne:w2.heap.size≠B:=fun e=>by
      have h1:=unhide HG3
      rw [e,hmb] at h1
      cases h1
     have r1:(put w3.drew B (.map es1 clock1)).rangeAt w2.heap.size 0 cs:=range_put hrg hne
     have r2:(put (put w3.drew B (.map es1 clock1)) B (.map es2 clock1)).rangeAt w2.heap.size 0 cs:=range_put r1 hne
     have M4:=hide (Mid.more (es1:=es1) (unhide M3) hmd ht2)
     have l3:=ht2.look (unhide HF) (mk.put_heap (o:=.map es2 clock1) (mk.put_heap (o:=.map es1 clock1) hmd))
     rw [unhide HC,mk.count_snoc,if_pos rfl] at l3
     have HN:Hid (G.count c=0→c∉G):=fun h=>List.count_eq_zero.1 h
     have HY:Hid (¬ G.count c=0→c∈G):=fun h=>Classical.byContradiction fun h'=>h (List.count_eq_zero.2 h')
     have hgi:goInt st=.int .i64 (st:Int):=rfl
     rw [hgi] at e1 s1
     generalize G.count c=n at *
     have hwr:IntKind.i64.wrap ((n:Int)+1)=(n:Int)+1:=IntWalk.i64_in _ ⟨by omega,by omega⟩
     generalize w2.heap.size=b3 at *
     clear hE hS hK HG3 HLT ht ht2 M3
     go_wp2_with fail
     go_region_held3 (fun w'=>w'.rangeAt b3 0 cs) (first | go_keep_ranges | assumption) (fail)
     all_goals
      generalize put (put w3.drew B (.map es1 clock1)) B (.map es2 clock1)=w5 at *
      clear l1 e1 l2 s1 r1 hrg
      by_cases hn0:n=0
      ·have hq:(((n+1:Nat):Int) == 1)=true:=by simp [hn0]
       have HX:=hide (show oneAll (G++[c])=oneAll G++[c] by rw [oneAll_snoc];exact if_neg (fun h=>unhide HN hn0 ((oneAll_mem G).1 h)))
       clear HN hn0
       go_wp2_with (first | (refine wpList_load_mid rfl 101 _ rfl b3 0 rfl cs _ r2 hu rfl hi2 ?_) | (refine B_row h24 rfl _ rfl rfl ?_) | (at_builtin;refine appendW hCC (unhide HF) (unhide M4) hX1 rfl _ _ rfl rfl rfl ?_))
       intro v6 w6 m6
       have M6:=hide m6
       clear m6 M4 l3 r2
       go_wp2_with fail
       go_roundw
       case rel=>exact⟨k+1,by omega,by go_num,by rw [unhide HG,unhide HX];exact unhide M6⟩
       case measure=>simp [intOf];omega
      ·have hq:(((n+1:Nat):Int) == 1)=false:=by simp;omega
       have HX:=hide (show oneAll (G++[c])=oneAll G by rw [oneAll_snoc];exact if_pos ((oneAll_mem G).2 (unhide HY hn0)))
       clear HN HY hn0
       go_wp2_with (refine wpList_load_mid rfl 101 _ rfl b3 0 rfl cs _ r2 hu rfl hi2 ?_)
       go_roundw
       case rel=>exact⟨k+1,by omega,by go_num,by rw [unhide HG,unhide HX];exact unhide M4⟩
       case measure=>simp [intOf];omega
  ·have hi':¬ (k:Int)<(LL.length:Int):=by omega
   have e:LL.take k=LL:=List.take_of_length_le (by omega)
   rw [e] at hm
   clear HA e
   go_wp2
   go_ret
   exact⟨_,rfl,(unhide hm).own,(unhide hm).g⟩
end Go.Proofs.YtnlllcgcaddhmaaGreatDoor.rws
namespace Go.Proofs.YtnlllcgcaddhmaaGreatDoor.pio
open Go.ChangeShapes Go.WideShapes Go.ChangeAt Go.RowKit
open sl (hide unhide grown_refl grown_trans grown_drewN below_of of_below)
open ro (cells8 size8 pad pad_len one8 infoRow aheadL ahead_less)
open mk (Fine)
open cs (Up Ord less_ord put_up)
open le (lessL)
open rws (cellsR cellsR_len row_kept)
set_option linter.unusedVariables false
def rowC (L:List Int):List Value:=(cells8 (pad L)).toList
theorem rowC_len {L:List Int}(h:Fine L):(rowC L).length=24:=by
 unfold rowC
 rw [Array.length_toList,size8,pad_len h.1]
theorem rowC_one (L:List Int):∀ v∈rowC L,v.oneCell'=true:=by
 intro v hv
 have:=one8 (pad L)
 rw [Array.all_eq_true_iff_forall_mem] at this
 exact this v (by simpa [rowC] using hv)
theorem split (A B:List (List Int))(c:List Int):cellsR (A++c::B)=cellsR A++(rowC c++cellsR B):=by
 unfold rws.cellsR rowC
 rw [List.flatMap_append,List.flatMap_cons]
def setAll (xs:List Value)(o:Nat)(ys:List Value):List Value:=match ys with
 | []=>xs
 | y::ys=>setAll (xs.set o y) (o+1) ys
theorem end0 {P:Program}{fn:Func}{R:Ending→World→Prop}{a:Act}{w:World}(h:fn.results=#[])(hd:a.defers=[])(hr:R (.returned (.tuple #[])) w):bodyPost P fn R .normal a w :=
 ⟨hd,_,by simp [results,h],hr⟩
theorem setAll_eq (ys:List Value):∀ (P Z:List Value) (o:Nat) (R:List Value),P.length=o→Z.length=ys.length→setAll (P++(Z++R)) o ys=P++(ys++R):=by
 induction ys with
 | nil =>
  intro P Z o R hP hZ
  have:Z=[]:=List.eq_nil_of_length_eq_zero hZ
  rw [this]
  rfl
 | cons y ys ih =>
  intro P Z o R hP hZ
  cases Z with
  | nil=>cases hZ
  | cons z Z =>
   have e:(P++(z::Z++R)).set o y=(P++[y])++(Z++R):=by
    rw [←hP]
    simp
   show setAll ((P++(z::Z++R)).set o y) (o+1) ys=_
   rw [e,ih (P++[y]) Z (o+1) R (by simp [hP]) (by simpa using hZ)]
   simp
theorem own_setAll {base size g n cap:Nat}{e:TypeId}(ys:List Value):∀ (o:Nat) (w:World) (xs:List Value),w.ownsRow base e size (.slice (some ⟨g,0,none⟩) n cap) n xs →
  (w.setCells g o ys).ownsRow base e size (.slice (some ⟨g,0,none⟩) n cap) n (setAll xs o ys)∧w.grownBy (w.setCells g o ys) (some g):=by
 induction ys with
 | nil =>
  intro o w xs h
  exact⟨h,⟨rfl,rfl,rfl,Nat.le_refl _,fun _ _ _=>rfl⟩⟩
 | cons y ys ih =>
  intro o w xs h
  obtain⟨h1,g1⟩:=h.stored o y
  obtain⟨h2,g2⟩:=ih (o+1) _ _ h1
  exact⟨h2,sl.grown_trans' g1 g2⟩
def Lie (lo:Nat)(w:World)(g n cap:Nat)(X:List (List Int)):Prop:=w.ownsRow lo 101 24 (.slice (some ⟨g,0,none⟩) n cap) n (cellsR X)
theorem Lie.cell {lo g n cap:Nat}{w:World}{X:List (List Int)}(h:Lie lo w g n cap X){j:Nat}{v:Value}(hv:(cellsR X)[j]?=some v):w.cell? ⟨g,j,none⟩=some v:=by
 have hj:j<n*24:=by
  have:=(List.getElem?_eq_some_iff.1 hv).1
  rw [h.1] at this
  exact this
 rw [h.cellAt j hj]
 exact hv
theorem Lie.range {lo g n cap:Nat}{w:World}{A B:List (List Int)}{c:List Int}(h:Lie lo w g n cap (A++c::B))(hA:∀ L∈A,Fine L){o:Nat}(ho:A.length*24=o):w.rangeAt g o (rowC c):=by
 intro j v hv
 refine h.cell ?_
 rw [split,List.getElem?_append_right (by rw [cellsR_len A (fun L hL=>(hA L hL).1)];omega),cellsR_len A (fun L hL=>(hA L hL).1),ho,Nat.add_sub_cancel_left,List.getElem?_append_left (List.getElem?_eq_some_iff.1 hv).1]
 exact hv
theorem Lie.there {lo g n cap:Nat}{w:World}{A B:List (List Int)}{c:List Int}(h:Lie lo w g n cap (A++c::B))(hA:∀ L∈A,Fine L)(hc:Fine c){o:Nat}(ho:A.length*24=o):w.there g o 24:=by
 intro j hj
 have r:=h.range hA ho
 refine⟨?_,h.frozenAt _⟩
 have:j<(rowC c).length:=by rw [rowC_len hc];exact hj
 rw [r j _ (List.getElem?_eq_getElem this)]
 rfl
theorem Lie.put {lo g n cap:Nat}{w:World}{A B:List (List Int)}{c d:List Int}(h:Lie lo w g n cap (A++c::B))(hA:∀ L∈A,Fine L)(hc:Fine c)(hd:Fine d){o:Nat}(ho:A.length*24=o) :
  Lie lo (w.setCells g o (rowC d)) g n cap (A++d::B)∧w.grownBy (w.setCells g o (rowC d)) (some g):=by
 obtain⟨h1,g1⟩:=own_setAll (rowC d) o w _ h
 refine⟨?_,g1⟩
 unfold Lie
 rw [split] at h1 ⊢
 rw [setAll_eq (rowC d) (cellsR A) (rowC c) o (cellsR B) (by rw [cellsR_len A (fun L hL=>(hA L hL).1),ho]) (by rw [rowC_len hc,rowC_len hd])] at h1
 exact h1
theorem Lie.kept {lo g n cap:Nat}{w w':World}{X:List (List Int)}(h:Lie lo w g n cap X)(k:w.grownBy w' none):Lie lo w' g n cap X:=row_kept h k
theorem range_kept {w w':World}{b o:Nat}{cs:List Value}(h:w.rangeAt b o cs)(k:w.grownBy w' none):w'.rangeAt b o cs:=fun j v hv=>k.cell (h j v hv) (fun e=>by cases e)
theorem grown_wide {w w':World}{r:Option Nat}(h:w.grownBy w' none):w.grownBy w' r:=grown_trans (grown_refl w) h
def OutI (lo:Nat)(w wr:World)(g cap:Nat)(X:List (List Int))(i:Nat):Prop :=
 w.grownBy wr (some g)∧∃ S,Lie lo wr g X.length cap (S++X.drop i)∧S.length=i∧Up lessL S∧∀ x,x∈S↔x∈X.take i
def InI (lo:Nat)(w wr:World)(g cap:Nat)(X:List (List Int))(i j:Nat):Prop :=
 w.grownBy wr (some g)∧∃ A B c,Lie lo wr g X.length cap (A++c::(B++X.drop (i+1)))∧A.length=j∧A.length+B.length=i∧Up lessL (A++B)∧(∀ x,x∈A++B↔x∈X.take i)∧X[i]?=some c∧∀ b∈B,lessL c b=true
theorem OutI.in_ {lo:Nat}{w wr:World}{g cap:Nat}{X:List (List Int)}{i:Nat}(h:OutI lo w wr g cap X i)(hi:i<X.length):InI lo w wr g cap X i i:=by
 obtain⟨h1,S,h2,h3,h4,h5⟩:=h
 refine⟨h1,S,[],X[i],?_,h3,by simpa using h3,by rw [List.append_nil];exact h4,by rw [List.append_nil];exact h5,List.getElem?_eq_getElem hi,by simp⟩
 rw [List.drop_eq_getElem_cons hi] at h2
 exact h2
theorem fine_A {X:List (List Int)}{A B:List (List Int)}{i:Nat}(hX:∀ L∈X,Fine L)(h:∀ x,x∈A++B↔x∈X.take i):(∀ L∈A,Fine L)∧∀ L∈B,Fine L :=
 ⟨fun L hL=>hX L (List.mem_of_mem_take ((h L).1 (by simp [hL]))),fun L hL=>hX L (List.mem_of_mem_take ((h L).1 (by simp [hL])))⟩
theorem not_in {X:List (List Int)}{i:Nat}{c:List Int}(hn:X.Nodup)(h:X[i]?=some c):c∉X.take i:=by
 intro hm
 obtain⟨hi,e⟩:=List.getElem?_eq_some_iff.1 h
 obtain⟨k,hk,e'⟩:=List.mem_take_iff_getElem.1 hm
 have hk':k<X.length:=by omega
 have:=(List.getElem_inj (h₀:=hk') (h₁:=hi) hn).1 (e'.trans e.symm)
 omega
theorem out_of {lo:Nat}{w wr:World}{g cap:Nat}{X:List (List Int)}{i:Nat}(hX:∀ L∈X,Fine L)(hn:X.Nodup){A B:List (List Int)}{c:List Int}(h1:w.grownBy wr (some g))(h2:Lie lo wr g X.length cap (A++c::(B++X.drop (i+1))))(h4:A.length+B.length=i)(h5:Up lessL (A++B))(h6:∀ x,x∈A++B↔x∈X.take i)(h7:X[i]?=some c)(h8:∀ b∈B,lessL c b=true)
  (hA:A=[]∨∃ A' a,A=A'++[a]∧lessL c a=false):OutI lo w wr g cap X (i+1):=by
 obtain⟨fA,fB⟩:=fine_A hX h6
 have fc:=hX c (List.mem_of_getElem? h7)
 have hi:=(List.getElem?_eq_some_iff.1 h7).1
 have hcA:c∉A:=fun hm=>not_in hn h7 ((h6 c).1 (by simp [hm]))
 refine⟨h1,A++c::B,by simpa using h2,by simp;omega,put_up less_ord h5 (fun L hL=>(fA L hL).2) (fun L hL=>(fB L hL).2) fc.2 hcA h8 hA,fun x=>?_⟩
 have ht:X.take (i+1)=X.take i++[c]:=by
  rw [List.take_succ_eq_append_getElem hi]
  congr 2
  rw [List.getElem?_eq_getElem hi] at h7
  exact Option.some.inj h7
 have:=h6 x
 rw [List.mem_append] at this
 rw [ht,List.mem_append,List.mem_cons,List.mem_append,List.mem_singleton,←this]
 constructor
 ·rintro (q | q | q)
  ·exact .inl (.inl q)
  ·exact .inr q
  ·exact .inl (.inr q)
 ·rintro ((q | q) | q)
  ·exact .inl q
  ·exact .inr (.inr q)
  ·exact .inr (.inl q)
theorem InI.out0 {lo:Nat}{w wr:World}{g cap:Nat}{X:List (List Int)}{i:Nat}(hX:∀ L∈X,Fine L)(hn:X.Nodup)(h:InI lo w wr g cap X i 0):OutI lo w wr g cap X (i+1):=by
 obtain⟨h1,A,B,c,h2,h3,h4,h5,h6,h7,h8⟩:=h
 exact out_of hX hn h1 h2 h4 h5 h6 h7 h8 (.inl (List.eq_nil_of_length_eq_zero h3))
theorem next {lo:Nat}{w wr:World}{g cap:Nat}{X:List (List Int)}{i q:Nat}(hX:∀ L∈X,Fine L)(hn:X.Nodup)(h:InI lo w wr g cap X i (q+1)) :
  ∃ A a R c,Lie lo wr g X.length cap (A++a::(c::R))∧A.length=q∧Fine a∧Fine c∧(∀ L∈A,Fine L)∧(lessL c a=false→∀ wr',wr.grownBy wr' none→OutI lo w wr' g cap X (i+1)) ∧
   (lessL c a=true→∀ wr',Lie lo wr' g X.length cap (A++c::(a::R))→wr.grownBy wr' (some g)→InI lo w wr' g cap X i q):=by
 obtain⟨h1,A0,B,c,h2,h3,h4,h5,h6,h7,h8⟩:=h
 obtain⟨fA,fB⟩:=fine_A hX h6
 have fc:=hX c (List.mem_of_getElem? h7)
 rcases List.eq_nil_or_concat A0 with e | ⟨A,a,e⟩
 ·rw [e] at h3
  cases h3
 ·rw [List.concat_eq_append] at e
  subst e
  have hl:A.length=q:=by simpa using h3
  have h2':Lie lo wr g X.length cap (A++a::(c::(B++X.drop (i+1)))):=by
   rw [List.append_assoc] at h2
   exact h2
  refine⟨A,a,B++X.drop (i+1),c,h2',hl,fA a (by simp),fc,fun L hL=>fA L (by simp [hL]),fun hlt wr' k=>?_,fun hlt wr' h2n k=>?_⟩
  ·exact out_of hX hn (sl.grown_trans' h1 (grown_wide k)) (h2.kept k) h4 h5 h6 h7 h8 (.inr ⟨A,a,rfl,hlt⟩)
  ·refine⟨sl.grown_trans' h1 k,A,a::B,c,by simpa using h2n,hl,by simp at h4 ⊢;omega,by rw [List.append_assoc] at h5;exact h5,fun x=>by rw [←h6 x];simp,h7,fun b hb=>?_⟩
   rcases List.mem_cons.1 hb with rfl | hb
   ·exact hlt
   ·exact h8 b hb
theorem OutI.drewN {lo:Nat}{w wr:World}{g cap:Nat}{X:List (List Int)}{i:Nat}(h:OutI lo w wr g cap X i)(m:Nat):OutI lo w (wr.drewN m) g cap X i:=by
 obtain⟨h1,S,h2,h3⟩:=h
 exact⟨sl.grown_trans' h1 (grown_wide (grown_drewN wr m)),S,h2.kept (grown_drewN wr m),h3⟩
theorem swapped {lo g n cap q:Nat}{wr:World}{A R:List (List Int)}{a c:List Int}(h:Lie lo wr g n cap (A++a::(c::R)))(hA:∀ L∈A,Fine L)(ha:Fine a)(hc:Fine c)(hl:A.length=q)(w':World)(k:wr.grownBy w' none) :
  Lie lo ((w'.setCells g ((q+1)*24) (rowC a)).setCells g (q*24) (rowC c)) g n cap (A++c::(a::R))∧wr.grownBy ((w'.setCells g ((q+1)*24) (rowC a)).setCells g (q*24) (rowC c)) (some g)∧w'.there g ((q+1)*24) 24∧w'.there g (q*24) 24:=by
 have h':Lie lo w' g n cap ((A++[a])++c::R):=by rw [List.append_assoc];exact h.kept k
 have hA':∀ L∈A++[a],Fine L:=fun L hL=>by
  rcases List.mem_append.1 hL with q | q
  ·exact hA L q
  ·rw [List.mem_singleton] at q
   rw [q]
   exact ha
 have o1:(A++[a]).length*24=(q+1)*24:=by rw [List.length_append,hl];rfl
 obtain⟨p1,g1⟩:=h'.put hA' hc ha o1
 rw [List.append_assoc] at p1
 obtain⟨p2,g2⟩:=Lie.put (A:=A) (B:=a::R) (c:=a) (d:=c) p1 hA ha hc (show A.length*24=q*24 by rw [hl])
 exact⟨p2,sl.grown_trans' (sl.grown_trans' (grown_wide k) g1) g2,h'.there hA' hc o1,Lie.there (h.kept k) hA ha (show A.length*24=q*24 by rw [hl])⟩
theorem there_len {w:World}{b o:Nat}{cs:List Value}(h:w.there b o 24)(hl:cs.length=24):w.there b o (List.toArray cs).size:=by
 rw [List.size_toArray,hl]
 exact h
theorem region_drew {P:Program}{ops:Array Oper}{Q:Exit→Act→World→Prop}{id:Nat}{a:Act}{w:World}(hm:P.follows .mixedOrders=true)(h:wpAny P .any ops Q ops.size (Array.replicate ops.size false) a w.drew):(Code.region id ops true).wp P Q a w:=wp_region_any hm h
theorem ahead_is {c a:List Int}(hc:Fine c)(ha:Fine a):aheadL (pad c) (pad a)=lessL c a :=
 ahead_less c a _ _ hc.2 ha.2 (by have:=hc.1;have:=ha.1;omega)
set_option maxRecDepth 10000 in
set_option maxHeartbeats 1600000 in
theorem putInOrder (lo g cap:Nat)(X:List (List Int))(w:World)(hX:∀ L∈X,Fine L)(hn:X.Nodup)(hl:X.length≤1048576)(h:Lie lo w g X.length cap X) :
  Calls Tryz.prog 70 #[.slice (some ⟨g,0,none⟩) X.length cap,.func (.func 71) #[] #[]] w fun e w'=>e=.returned (.tuple #[])∧OutI lo w w' g cap X X.length:=by
 have ST:Hid (OutI lo w w g cap X 0):=⟨⟨rfl,rfl,rfl,Nat.le_refl _,fun _ _ _=>rfl⟩,[],by simpa using h,rfl,List.Pairwise.nil,by simp⟩
 clear h
 go_enter Tryz.func70,Tryz.ntmps70
 go_wp2_with fail
 go_loopw [8] (fun i wr=>∃ k:Nat,k≤X.length∧i=.int .i64 k∧Hid (OutI lo w wr g cap X k)) (fun i _=>X.length - (intOf i).toNat)
 case atStart=>exact⟨0,Nat.zero_le _,rfl,ST⟩
 case round =>
  obtain⟨k,hk,rfl,hm⟩:=hrel
  clear ST
  by_cases hlt:k<X.length
  ·have hi':(k:Int)<(X.length:Int):=by omega
   have S2:=hide ((unhide hm).in_ hlt)
   clear hm
   go_wp2_with fail
   generalize hwq:wr=wq at *
   clear hwq
   go_loopw [5] (fun i wr=>∃ j:Nat,j≤k∧i=.int .i64 j∧Hid (InI lo w wr g cap X k j)) (fun i _=>(intOf i).toNat)
   case atStart=>exact⟨k,Nat.le_refl _,rfl,S2⟩
   case round =>
    obtain⟨j,hj,rfl,hm⟩:=hrel
    clear S2
    by_cases h0:j=0
    ·subst h0
     have OU:=hide ((unhide hm).out0 hX hn)
     clear hm
     go_wp2_with fail
     go_quiet (fail)
     go_wp2_with fail
     go_roundw
     case rel=>exact⟨k+1,by omega,by go_num,OutI.drewN (unhide OU) _⟩
     case measure=>simp [intOf];omega
    ·obtain⟨q,rfl⟩:∃ q,j=q+1:=⟨j - 1,by omega⟩
     clear h0
     obtain⟨A,a,R,c,hLie,hAl,hfa,hfc,hfA,hstop,hgo⟩:=next hX hn (unhide hm)
     have hqn:q+1<X.length:=by omega
     have hLie':Lie lo wr g X.length cap ((A++[a])++c::R):=by rw [List.append_assoc];exact hLie
     have hfA':∀ L∈A++[a],Fine L:=fun L hL=>by
      rcases List.mem_append.1 hL with q | q
      ·exact hfA L q
      ·rw [List.mem_singleton] at q
       rw [q]
       exact hfa
     have ra:wr.rangeAt g (q*24) (rowC a):=hLie.range hfA (by rw [hAl])
     have rc:wr.rangeAt g ((q+1)*24) (rowC c):=hLie'.range hfA' (by rw [List.length_append,hAl];rfl)
     have SW:=hide (swapped hLie hfA hfa hfc hAl)
     have CA:=ro.rowAhead (pad c) (pad a) wr.drew (pad_len hfc.1) (pad_len hfa.1) (mk.pad_bd hfc) (mk.pad_bd hfa)
     rw [ahead_is hfc hfa] at CA
     have ea:(rowC a).toArray=cells8 (pad a):=by simp [rowC]
     have ec:(rowC c).toArray=cells8 (pad c):=by simp [rowC]
     rw [←ea,←ec] at CA
     have ca:=hide CA
     have la:=rowC_len hfa
     have lc:=rowC_len hfc
     have oa:=rowC_one a
     have oc:=rowC_one c
     have hu:=Tryz.underlying101
     have ia:(Tryz.prog.info? 101).map (·.size)=some (rowC a).length:=by rw [la];exact infoRow
     have ic:(Tryz.prog.info? 101).map (·.size)=some (rowC c).length:=by rw [lc];exact infoRow
     have HS:=hide hstop
     have HG:=hide hgo
     have HL:=hide hLie
     have HFA:=hide hfA
     have HFa:=hide hfa
     have HFc:=hide hfc
     have HAl:=hide hAl
     clear hLie hLie' hfA hfA' hfa hfc hAl hstop hgo CA ea ec hm
     generalize rowC a=ds at *
     generalize rowC c=cs at *
     have i1:(0:Int)≤(q:Int):=by omega
     have i5:(0:Int)≤(q:Int)+1:=by omega
     have i2:(q:Int)<(X.length:Int):=by omega
     have i3:(q:Int)+1<(X.length:Int):=by omega
     have i4:IntKind.i64.wrap (q:Int)=(q:Int):=IntWalk.i64_in _ ⟨by omega,by omega⟩
     cases hb:lessL c a
     ·rw [hb] at ca
      have hs:=hide (unhide HS hb)
      clear HS HG hb
      go_wp2_with fail
      refine wp_region_noPanic ?_
      refine wp_region_held_drew (S:=fun w'=>w'.rangeAt g (q*24) ds∧w'.rangeAt g ((q+1)*24) cs) (by kernel_rfl) ⟨ra,rc⟩ (fun hHeld=>?_)
      refine wpAnyH_take (i:=0) (v:=?vx1) rfl (by kernel_rfl) (by kernel_rfl) (by kernel_rfl) (fun _ _ _ h=>h) (Or.inl ⟨by rfl,?yx1⟩) (by assumption) ?rx1
      case yx1=>first | (intro w hSw;go_simp;done) | (intro w hSw;go_simp;with_reducible rfl)
      simp only [Act.put,List.getElem_toArray,List.getElem_cons_zero,List.setIfInBounds_toArray,List.set_cons_zero,List.set_cons_succ]
      refine wpAnyH_take (i:=1) (v:=?vx2) rfl (by kernel_rfl) (by kernel_rfl) (by kernel_rfl) (fun _ _ _ h=>h) (Or.inl ⟨by rfl,?yx2⟩) (by assumption) ?rx2
      case yx2=>first | (intro w hSw;go_simp;done) | (intro w hSw;go_simp;with_reducible rfl)
      simp only [Act.put,List.getElem_toArray,List.getElem_cons_succ,List.getElem_cons_zero,List.setIfInBounds_toArray,List.set_cons_zero,List.set_cons_succ]
      refine wpAnyH_take (i:=2) (v:=?vx3) rfl (by kernel_rfl) (by kernel_rfl) (by kernel_rfl) (fun _ _ _ h=>h) (Or.inl ⟨by rfl,?yx3⟩) (by assumption) ?rx3
      case yx3=>first | (intro w hSw;go_simp;done) | (intro w hSw;go_simp;with_reducible rfl)
      simp only [Act.put,List.getElem_toArray,List.getElem_cons_succ,List.getElem_cons_zero,List.setIfInBounds_toArray,List.set_cons_zero,List.set_cons_succ]
      refine wpAnyH_take (i:=3) (v:=?vx4) rfl (by kernel_rfl) (by kernel_rfl) (by kernel_rfl) (fun _ _ _ h=>h) (Or.inl ⟨by rfl,?yx4⟩) (by assumption) ?rx4
      case yx4=>first | (intro w hSw;go_simp;done) | (intro w hSw;go_simp;with_reducible rfl)
      simp only [Act.put,List.getElem_toArray,List.getElem_cons_succ,List.getElem_cons_zero,List.setIfInBounds_toArray,List.set_cons_zero,List.set_cons_succ]
      refine wpAnyH_take (i:=4) (v:=?vx5) rfl (by kernel_rfl) (by kernel_rfl) (by kernel_rfl) (fun _ _ _ h=>h) (Or.inl ⟨by rfl,?yx5⟩) (by assumption) ?rx5
      case yx5=>first | (intro w hSw;go_simp;done) | (intro w hSw;go_simp;with_reducible rfl)
      simp only [Act.put,List.getElem_toArray,List.getElem_cons_succ,List.getElem_cons_zero,List.setIfInBounds_toArray,List.set_cons_zero,List.set_cons_succ]
      refine wpAnyH_take (i:=5) (v:=?vx6) rfl (by kernel_rfl) (by kernel_rfl) (by kernel_rfl) (fun _ _ _ h=>h) (Or.inl ⟨by rfl,?yx6⟩) (by assumption) ?rx6
      case yx6=>first | (intro w hSw;go_simp;done) | (intro w hSw;go_simp;with_reducible rfl)
      simp only [Act.put,List.getElem_toArray,List.getElem_cons_succ,List.getElem_cons_zero,List.setIfInBounds_toArray,List.set_cons_zero,List.set_cons_succ]
      refine wpAnyH_take (i:=6) (v:=?vx7) rfl (by kernel_rfl) (by kernel_rfl) (by kernel_rfl) (fun _ _ _ h=>h) (Or.inl ⟨by rfl,?yx7⟩) (by assumption) ?rx7
      case yx7=>first | (intro w hSw;go_simp;done) | (intro w hSw;go_simp;with_reducible rfl)
      simp only [Act.put,List.getElem_toArray,List.getElem_cons_succ,List.getElem_cons_zero,List.setIfInBounds_toArray,List.set_cons_zero,List.set_cons_succ]
      refine wpAnyH_take (i:=7) (v:=.agg (List.toArray cs)) rfl (by kernel_rfl) (by kernel_rfl) (by kernel_rfl) (fun _ _ _ h=>h) ?yx8 (by assumption) ?rx8
      case yx8=>exact yieldsIf_load_mid (by rfl) _ _ rfl _ _ rfl cs _ (fun w (hSw:w.rangeAt g (q*24) ds∧w.rangeAt g ((q+1)*24) cs)=>hSw.2) hu rfl ic
      simp only [Act.put,List.getElem_toArray,List.getElem_cons_succ,List.getElem_cons_zero,List.setIfInBounds_toArray,List.set_cons_zero,List.set_cons_succ]
      refine wpAnyH_take (i:=8) (v:=?vx9) rfl (by kernel_rfl) (by kernel_rfl) (by kernel_rfl) (fun _ _ _ h=>h) (Or.inl ⟨by rfl,?yx9⟩) (by assumption) ?rx9
      case yx9=>first | (intro w hSw;go_simp;done) | (intro w hSw;go_simp;with_reducible rfl)
      simp only [Act.put,List.getElem_toArray,List.getElem_cons_succ,List.getElem_cons_zero,List.setIfInBounds_toArray,List.set_cons_zero,List.set_cons_succ]
      refine wpAnyH_take (i:=9) (v:=?vx10) rfl (by kernel_rfl) (by kernel_rfl) (by kernel_rfl) (fun _ _ _ h=>h) (Or.inl ⟨by rfl,?yx10⟩) (by assumption) ?rx10
      case yx10=>first | (intro w hSw;go_simp;done) | (intro w hSw;go_simp;with_reducible rfl)
      simp only [Act.put,List.getElem_toArray,List.getElem_cons_succ,List.getElem_cons_zero,List.setIfInBounds_toArray,List.set_cons_zero,List.set_cons_succ]
      refine wpAnyH_take (i:=10) (v:=?vx11) rfl (by kernel_rfl) (by kernel_rfl) (by kernel_rfl) (fun _ _ _ h=>h) (Or.inl ⟨by rfl,?yx11⟩) (by assumption) ?rx11
      case yx11=>first | (intro w hSw;go_simp;done) | (intro w hSw;go_simp;with_reducible rfl)
      simp only [Act.put,List.getElem_toArray,List.getElem_cons_succ,List.getElem_cons_zero,List.setIfInBounds_toArray,List.set_cons_zero,List.set_cons_succ]
      refine wpAnyH_take (i:=11) (v:=?vx12) rfl (by kernel_rfl) (by kernel_rfl) (by kernel_rfl) (fun _ _ _ h=>h) (Or.inl ⟨by rfl,?yx12⟩) (by assumption) ?rx12
      case yx12=>first | (intro w hSw;go_simp;done) | (intro w hSw;go_simp;with_reducible rfl)
      simp only [Act.put,List.getElem_toArray,List.getElem_cons_succ,List.getElem_cons_zero,List.setIfInBounds_toArray,List.set_cons_zero,List.set_cons_succ]
      refine wpAnyH_take (i:=12) (v:=.agg (List.toArray ds)) rfl (by kernel_rfl) (by kernel_rfl) (by kernel_rfl) (fun _ _ _ h=>h) ?yx13 (by assumption) ?rx13
      case yx13=>exact yieldsIf_load_mid (by rfl) _ _ rfl _ _ rfl ds _ (fun w (hSw:w.rangeAt g (q*24) ds∧w.rangeAt g ((q+1)*24) cs)=>hSw.1) hu rfl ia
      simp only [Act.put,List.getElem_toArray,List.getElem_cons_succ,List.getElem_cons_zero,List.setIfInBounds_toArray,List.set_cons_zero,List.set_cons_succ]
      refine wpAnyH_ready (rs:=[13]) (by kernel_rfl) (by simp) ?_
      refine AllReadyH.cons rfl (fun K hK=>?_) AllReadyH.nil
      rw [if_pos (by rfl)]
      simp only [List.getElem_toArray,List.getElem_cons_succ,List.getElem_cons_zero]
      go_simp
      refine (unhide ca).mono ?_
      rintro e w2 ⟨rfl,g2⟩
      have G2:=hide (grown_trans (r:=none) (cf.grown_drew wr none) g2)
      refine hK.out _ _ ⟨range_kept hHeld.1 g2,range_kept hHeld.2 g2⟩ (fun hHeld2=>?_)
      clear hK K g2 hHeld ca
      refine wpAnyH_take (i:=14) (v:=?vx14) rfl (by kernel_rfl) (by kernel_rfl) (by kernel_rfl) (fun _ _ _ h=>h) (Or.inl ⟨by rfl,?yx14⟩) (by assumption) ?rx14
      case yx14=>first | (intro w hSw;go_simp;done) | (intro w hSw;go_simp;with_reducible rfl)
      simp only [Act.put,List.getElem_toArray,List.getElem_cons_succ,List.getElem_cons_zero,List.setIfInBounds_toArray,List.set_cons_zero,List.set_cons_succ]
      refine wpAnyH_done (by kernel_rfl) ?_ _
      refine NoPanic.normal ?_
      go_wp2_with fail
      go_roundw
      case rel=>exact⟨k+1,by omega,by go_num,unhide hs _ (unhide G2)⟩
      case measure=>simp [intOf];omega
     ·rw [hb] at ca
      have hs:=hide (unhide HG hb)
      have RA:=hide ra
      have RC:=hide rc
      clear HS HG hb
      go_wp2_with fail
      refine wp_region_noPanic ?_
      refine wp_region_held_drew (S:=fun w'=>w'.rangeAt g (q*24) ds∧w'.rangeAt g ((q+1)*24) cs) (by kernel_rfl) ⟨ra,rc⟩ (fun hHeld=>?_)
      refine wpAnyH_take (i:=0) (v:=?vx15) rfl (by kernel_rfl) (by kernel_rfl) (by kernel_rfl) (fun _ _ _ h=>h) (Or.inl ⟨by rfl,?yx15⟩) (by assumption) ?rx15
      case yx15=>first | (intro w hSw;go_simp;done) | (intro w hSw;go_simp;with_reducible rfl)
      simp only [Act.put,List.getElem_toArray,List.getElem_cons_zero,List.setIfInBounds_toArray,List.set_cons_zero,List.set_cons_succ]
      refine wpAnyH_take (i:=1) (v:=?vx16) rfl (by kernel_rfl) (by kernel_rfl) (by kernel_rfl) (fun _ _ _ h=>h) (Or.inl ⟨by rfl,?yx16⟩) (by assumption) ?rx16
      case yx16=>first | (intro w hSw;go_simp;done) | (intro w hSw;go_simp;with_reducible rfl)
      simp only [Act.put,List.getElem_toArray,List.getElem_cons_succ,List.getElem_cons_zero,List.setIfInBounds_toArray,List.set_cons_zero,List.set_cons_succ]
      refine wpAnyH_take (i:=2) (v:=?vx17) rfl (by kernel_rfl) (by kernel_rfl) (by kernel_rfl) (fun _ _ _ h=>h) (Or.inl ⟨by rfl,?yx17⟩) (by assumption) ?rx17
      case yx17=>first | (intro w hSw;go_simp;done) | (intro w hSw;go_simp;with_reducible rfl)
      simp only [Act.put,List.getElem_toArray,List.getElem_cons_succ,List.getElem_cons_zero,List.setIfInBounds_toArray,List.set_cons_zero,List.set_cons_succ]
      refine wpAnyH_take (i:=3) (v:=?vx18) rfl (by kernel_rfl) (by kernel_rfl) (by kernel_rfl) (fun _ _ _ h=>h) (Or.inl ⟨by rfl,?yx18⟩) (by assumption) ?rx18
      case yx18=>first | (intro w hSw;go_simp;done) | (intro w hSw;go_simp;with_reducible rfl)
      simp only [Act.put,List.getElem_toArray,List.getElem_cons_succ,List.getElem_cons_zero,List.setIfInBounds_toArray,List.set_cons_zero,List.set_cons_succ]
      refine wpAnyH_take (i:=4) (v:=?vx19) rfl (by kernel_rfl) (by kernel_rfl) (by kernel_rfl) (fun _ _ _ h=>h) (Or.inl ⟨by rfl,?yx19⟩) (by assumption) ?rx19
      case yx19=>first | (intro w hSw;go_simp;done) | (intro w hSw;go_simp;with_reducible rfl)
      simp only [Act.put,List.getElem_toArray,List.getElem_cons_succ,List.getElem_cons_zero,List.setIfInBounds_toArray,List.set_cons_zero,List.set_cons_succ]
      refine wpAnyH_take (i:=5) (v:=?vx20) rfl (by kernel_rfl) (by kernel_rfl) (by kernel_rfl) (fun _ _ _ h=>h) (Or.inl ⟨by rfl,?yx20⟩) (by assumption) ?rx20
      case yx20=>first | (intro w hSw;go_simp;done) | (intro w hSw;go_simp;with_reducible rfl)
      simp only [Act.put,List.getElem_toArray,List.getElem_cons_succ,List.getElem_cons_zero,List.setIfInBounds_toArray,List.set_cons_zero,List.set_cons_succ]
      refine wpAnyH_take (i:=6) (v:=?vx21) rfl (by kernel_rfl) (by kernel_rfl) (by kernel_rfl) (fun _ _ _ h=>h) (Or.inl ⟨by rfl,?yx21⟩) (by assumption) ?rx21
      case yx21=>first | (intro w hSw;go_simp;done) | (intro w hSw;go_simp;with_reducible rfl)
      simp only [Act.put,List.getElem_toArray,List.getElem_cons_succ,List.getElem_cons_zero,List.setIfInBounds_toArray,List.set_cons_zero,List.set_cons_succ]
      refine wpAnyH_take (i:=7) (v:=.agg (List.toArray cs)) rfl (by kernel_rfl) (by kernel_rfl) (by kernel_rfl) (fun _ _ _ h=>h) ?yx22 (by assumption) ?rx22
      case yx22=>exact yieldsIf_load_mid (by rfl) _ _ rfl _ _ rfl cs _ (fun w (hSw:w.rangeAt g (q*24) ds∧w.rangeAt g ((q+1)*24) cs)=>hSw.2) hu rfl ic
      simp only [Act.put,List.getElem_toArray,List.getElem_cons_succ,List.getElem_cons_zero,List.setIfInBounds_toArray,List.set_cons_zero,List.set_cons_succ]
      refine wpAnyH_take (i:=8) (v:=?vx23) rfl (by kernel_rfl) (by kernel_rfl) (by kernel_rfl) (fun _ _ _ h=>h) (Or.inl ⟨by rfl,?yx23⟩) (by assumption) ?rx23
      case yx23=>first | (intro w hSw;go_simp;done) | (intro w hSw;go_simp;with_reducible rfl)
      simp only [Act.put,List.getElem_toArray,List.getElem_cons_succ,List.getElem_cons_zero,List.setIfInBounds_toArray,List.set_cons_zero,List.set_cons_succ]
      refine wpAnyH_take (i:=9) (v:=?vx24) rfl (by kernel_rfl) (by kernel_rfl) (by kernel_rfl) (fun _ _ _ h=>h) (Or.inl ⟨by rfl,?yx24⟩) (by assumption) ?rx24
      case yx24=>first | (intro w hSw;go_simp;done) | (intro w hSw;go_simp;with_reducible rfl)
      simp only [Act.put,List.getElem_toArray,List.getElem_cons_succ,List.getElem_cons_zero,List.setIfInBounds_toArray,List.set_cons_zero,List.set_cons_succ]
      refine wpAnyH_take (i:=10) (v:=?vx25) rfl (by kernel_rfl) (by kernel_rfl) (by kernel_rfl) (fun _ _ _ h=>h) (Or.inl ⟨by rfl,?yx25⟩) (by assumption) ?rx25
      case yx25=>first | (intro w hSw;go_simp;done) | (intro w hSw;go_simp;with_reducible rfl)
      simp only [Act.put,List.getElem_toArray,List.getElem_cons_succ,List.getElem_cons_zero,List.setIfInBounds_toArray,List.set_cons_zero,List.set_cons_succ]
      refine wpAnyH_take (i:=11) (v:=?vx26) rfl (by kernel_rfl) (by kernel_rfl) (by kernel_rfl) (fun _ _ _ h=>h) (Or.inl ⟨by rfl,?yx26⟩) (by assumption) ?rx26
      case yx26=>first | (intro w hSw;go_simp;done) | (intro w hSw;go_simp;with_reducible rfl)
      simp only [Act.put,List.getElem_toArray,List.getElem_cons_succ,List.getElem_cons_zero,List.setIfInBounds_toArray,List.set_cons_zero,List.set_cons_succ]
      refine wpAnyH_take (i:=12) (v:=.agg (List.toArray ds)) rfl (by kernel_rfl) (by kernel_rfl) (by kernel_rfl) (fun _ _ _ h=>h) ?yx27 (by assumption) ?rx27
      case yx27=>exact yieldsIf_load_mid (by rfl) _ _ rfl _ _ rfl ds _ (fun w (hSw:w.rangeAt g (q*24) ds∧w.rangeAt g ((q+1)*24) cs)=>hSw.1) hu rfl ia
      simp only [Act.put,List.getElem_toArray,List.getElem_cons_succ,List.getElem_cons_zero,List.setIfInBounds_toArray,List.set_cons_zero,List.set_cons_succ]
      refine wpAnyH_ready (rs:=[13]) (by kernel_rfl) (by simp) ?_
      refine AllReadyH.cons rfl (fun K hK=>?_) AllReadyH.nil
      rw [if_pos (by rfl)]
      simp only [List.getElem_toArray,List.getElem_cons_succ,List.getElem_cons_zero]
      go_simp
      refine (unhide ca).mono ?_
      rintro e w2 ⟨rfl,g2⟩
      have G2:=hide (grown_trans (r:=none) (cf.grown_drew wr none) g2)
      refine hK.out _ _ ⟨range_kept hHeld.1 g2,range_kept hHeld.2 g2⟩ (fun hHeld2=>?_)
      clear hK K g2 hHeld ca
      refine wpAnyH_take (i:=14) (v:=?vx28) rfl (by kernel_rfl) (by kernel_rfl) (by kernel_rfl) (fun _ _ _ h=>h) (Or.inl ⟨by rfl,?yx28⟩) (by assumption) ?rx28
      case yx28=>first | (intro w hSw;go_simp;done) | (intro w hSw;go_simp;with_reducible rfl)
      simp only [Act.put,List.getElem_toArray,List.getElem_cons_succ,List.getElem_cons_zero,List.setIfInBounds_toArray,List.set_cons_zero,List.set_cons_succ]
      refine wpAnyH_done (by kernel_rfl) ?_ _
      refine NoPanic.normal ?_
      go_wp2_with fail
      clear ra rc hHeld2
      have ra:=range_kept (unhide RA) (unhide G2)
      have rc:=range_kept (unhide RC) (unhide G2)
      refine region_drew (by kernel_rfl) ?_
      refine wpAny_take (i:=0) (v:=?vx29) rfl (by kernel_rfl) (by kernel_rfl) (by kernel_rfl) (fun _ _ _ h=>h) (Or.inl ⟨by rfl,?yx29⟩) ?rx29
      case yx29=>first | (intro w;go_simp;done) | (intro w;go_simp;with_reducible rfl)
      simp only [Act.put,List.getElem_toArray,List.getElem_cons_zero,List.setIfInBounds_toArray,List.set_cons_zero,List.set_cons_succ]
      refine wpAny_take (i:=1) (v:=?vx30) rfl (by kernel_rfl) (by kernel_rfl) (by kernel_rfl) (fun _ _ _ h=>h) (Or.inl ⟨by rfl,?yx30⟩) ?rx30
      case yx30=>first | (intro w;go_simp;done) | (intro w;go_simp;with_reducible rfl)
      simp only [Act.put,List.getElem_toArray,List.getElem_cons_succ,List.getElem_cons_zero,List.setIfInBounds_toArray,List.set_cons_zero,List.set_cons_succ]
      refine wpAny_take (i:=2) (v:=?vx31) rfl (by kernel_rfl) (by kernel_rfl) (by kernel_rfl) (fun _ _ _ h=>h) (Or.inl ⟨by rfl,?yx31⟩) ?rx31
      case yx31=>first | (intro w;go_simp;done) | (intro w;go_simp;with_reducible rfl)
      simp only [Act.put,List.getElem_toArray,List.getElem_cons_succ,List.getElem_cons_zero,List.setIfInBounds_toArray,List.set_cons_zero,List.set_cons_succ]
      refine wpAny_take (i:=3) (v:=?vx32) rfl (by kernel_rfl) (by kernel_rfl) (by kernel_rfl) (fun _ _ _ h=>h) (Or.inl ⟨by rfl,?yx32⟩) ?rx32
      case yx32=>first | (intro w;go_simp;done) | (intro w;go_simp;with_reducible rfl)
      simp only [Act.put,List.getElem_toArray,List.getElem_cons_succ,List.getElem_cons_zero,List.setIfInBounds_toArray,List.set_cons_zero,List.set_cons_succ]
      refine wpAny_take (i:=4) (v:=?vx33) rfl (by kernel_rfl) (by kernel_rfl) (by kernel_rfl) (fun _ _ _ h=>h) (Or.inl ⟨by rfl,?yx33⟩) ?rx33
      case yx33=>first | (intro w;go_simp;done) | (intro w;go_simp;with_reducible rfl)
      simp only [Act.put,List.getElem_toArray,List.getElem_cons_succ,List.getElem_cons_zero,List.setIfInBounds_toArray,List.set_cons_zero,List.set_cons_succ]
      refine wpAny_take (i:=5) (v:=?vx34) rfl (by kernel_rfl) (by kernel_rfl) (by kernel_rfl) (fun _ _ _ h=>h) (Or.inl ⟨by rfl,?yx34⟩) ?rx34
      case yx34=>first | (intro w;go_simp;done) | (intro w;go_simp;with_reducible rfl)
      simp only [Act.put,List.getElem_toArray,List.getElem_cons_succ,List.getElem_cons_zero,List.setIfInBounds_toArray,List.set_cons_zero,List.set_cons_succ]
      refine wpAny_take (i:=6) (v:=?vx35) rfl (by kernel_rfl) (by kernel_rfl) (by kernel_rfl) (fun _ _ _ h=>h) (Or.inl ⟨by rfl,?yx35⟩) ?rx35
      case yx35=>first | (intro w;go_simp;done) | (intro w;go_simp;with_reducible rfl)
      simp only [Act.put,List.getElem_toArray,List.getElem_cons_succ,List.getElem_cons_zero,List.setIfInBounds_toArray,List.set_cons_zero,List.set_cons_succ]
      refine wpAny_take (i:=7) (v:=?vx36) rfl (by kernel_rfl) (by kernel_rfl) (by kernel_rfl) (fun _ _ _ h=>h) (Or.inl ⟨by rfl,?yx36⟩) ?rx36
      case yx36=>first | (intro w;go_simp;done) | (intro w;go_simp;with_reducible rfl)
      simp only [Act.put,List.getElem_toArray,List.getElem_cons_succ,List.getElem_cons_zero,List.setIfInBounds_toArray,List.set_cons_zero,List.set_cons_succ]
      refine wpAny_take (i:=8) (v:=?vx37) rfl (by kernel_rfl) (by kernel_rfl) (by kernel_rfl) (fun _ _ _ h=>h) (Or.inl ⟨by rfl,?yx37⟩) ?rx37
      case yx37=>first | (intro w;go_simp;done) | (intro w;go_simp;with_reducible rfl)
      simp only [Act.put,List.getElem_toArray,List.getElem_cons_succ,List.getElem_cons_zero,List.setIfInBounds_toArray,List.set_cons_zero,List.set_cons_succ]
      refine wpAny_take (i:=10) (v:=?vx38) rfl (by kernel_rfl) (by kernel_rfl) (by kernel_rfl) (fun _ _ _ h=>h) (Or.inl ⟨by rfl,?yx38⟩) ?rx38
      case yx38=>first | (intro w;go_simp;done) | (intro w;go_simp;with_reducible rfl)
      simp only [Act.put,List.getElem_toArray,List.getElem_cons_succ,List.getElem_cons_zero,List.setIfInBounds_toArray,List.set_cons_zero,List.set_cons_succ]
      refine wpAny_take (i:=11) (v:=?vx39) rfl (by kernel_rfl) (by kernel_rfl) (by kernel_rfl) (fun _ _ _ h=>h) (Or.inl ⟨by rfl,?yx39⟩) ?rx39
      case yx39=>first | (intro w;go_simp;done) | (intro w;go_simp;with_reducible rfl)
      simp only [Act.put,List.getElem_toArray,List.getElem_cons_succ,List.getElem_cons_zero,List.setIfInBounds_toArray,List.set_cons_zero,List.set_cons_succ]
      refine wpAny_take (i:=12) (v:=?vx40) rfl (by kernel_rfl) (by kernel_rfl) (by kernel_rfl) (fun _ _ _ h=>h) (Or.inl ⟨by rfl,?yx40⟩) ?rx40
      case yx40=>first | (intro w;go_simp;done) | (intro w;go_simp;with_reducible rfl)
      simp only [Act.put,List.getElem_toArray,List.getElem_cons_succ,List.getElem_cons_zero,List.setIfInBounds_toArray,List.set_cons_zero,List.set_cons_succ]
      obtain⟨FL,FG,t1,t2⟩:=unhide SW w2.drew (grown_trans (r:=none) (unhide G2) (cf.grown_drew w2 none))
      have t2':=World.there_setCells t2 g ((q+1)*24) ds
      have fin:=hide (unhide hs _ FL FG)
      clear FL FG t2 SW
      refine wpAny_ready (rs:=[9,13]) (by kernel_rfl) (by simp) ?_
      refine AllReady.cons rfl (fun K hK=>?_) (AllReady.cons rfl (fun K hK=>?_) AllReady.nil)
      ·rw [if_pos (by rfl)]
       refine wp_load_mid _ _ rfl _ _ rfl ds _ ra hu rfl ia ?_
       refine hK _ _ ?_
       clear hK K
       simp only [Act.put,List.getElem_toArray,List.getElem_cons_succ,List.getElem_cons_zero,List.setIfInBounds_toArray,List.set_cons_zero,List.set_cons_succ]
       refine wpAny_ready (rs:=[13]) (by kernel_rfl) (by simp) ?_
       refine AllReady.cons rfl (fun K hK=>?_) AllReady.nil
       rw [if_pos (by rfl)]
       refine wp_load_mid _ _ rfl _ _ rfl cs _ rc hu rfl ic ?_
       refine hK _ _ ?_
       clear hK K
       simp only [Act.put,List.getElem_toArray,List.getElem_cons_succ,List.getElem_cons_zero,List.setIfInBounds_toArray,List.set_cons_zero,List.set_cons_succ]
       refine wpAny_take (i:=14) (v:=?vx41) rfl (by kernel_rfl) (by kernel_rfl) (by kernel_rfl) (fun _ _ _ h=>h) (Or.inl ⟨by rfl,?yx41⟩) ?rx41
       case yx41=>first | (intro w;go_simp;done) | (intro w;go_simp;with_reducible rfl)
       simp only [Act.put,List.getElem_toArray,List.getElem_cons_succ,List.getElem_cons_zero,List.setIfInBounds_toArray,List.set_cons_zero,List.set_cons_succ]
       refine wpAny_ready (rs:=[15]) (by kernel_rfl) (by simp) ?_
       refine AllReady.cons rfl (fun K hK=>?_) AllReady.nil
       rw [if_pos (by rfl)]
       refine wp_store_mid _ _ _ rfl _ _ (List.toArray ds) rfl rfl (there_len t1 la) (by rw [List.size_toArray];exact ia) (all_oneCell_toArray oa) ?_
       refine hK _ _ ?_
       clear hK K
       simp only [Act.put,List.getElem_toArray,List.getElem_cons_succ,List.getElem_cons_zero]
       refine wpAny_take (i:=16) (v:=?vx42) rfl (by kernel_rfl) (by kernel_rfl) (by kernel_rfl) (fun _ _ _ h=>h) (Or.inl ⟨by rfl,?yx42⟩) ?rx42
       case yx42=>first | (intro w;go_simp;done) | (intro w;go_simp;with_reducible rfl)
       simp only [Act.put,List.getElem_toArray,List.getElem_cons_succ,List.getElem_cons_zero,List.setIfInBounds_toArray,List.set_cons_zero,List.set_cons_succ]
       refine wpAny_ready (rs:=[17]) (by kernel_rfl) (by simp) ?_
       refine AllReady.cons rfl (fun K hK=>?_) AllReady.nil
       rw [if_pos (by rfl)]
       refine wp_store_mid _ _ _ rfl _ _ (List.toArray cs) rfl rfl (there_len t2' lc) (by rw [List.size_toArray];exact ic) (all_oneCell_toArray oc) ?_
       refine hK _ _ ?_
       clear hK K
       simp only [Act.put,List.getElem_toArray,List.getElem_cons_succ,List.getElem_cons_zero]
       refine wpAny_done (by kernel_rfl) ?_ _
       go_wp2_with fail
       go_roundw
       case rel=>exact⟨q,by omega,by go_num,unhide fin⟩
       case measure=>simp [intOf]
      ·rw [if_pos (by rfl)]
       refine wp_load_mid _ _ rfl _ _ rfl cs _ rc hu rfl ic ?_
       refine hK _ _ ?_
       clear hK K
       simp only [Act.put,List.getElem_toArray,List.getElem_cons_succ,List.getElem_cons_zero,List.setIfInBounds_toArray,List.set_cons_zero,List.set_cons_succ]
       refine wpAny_ready (rs:=[9]) (by kernel_rfl) (by simp) ?_
       refine AllReady.cons rfl (fun K hK=>?_) AllReady.nil
       rw [if_pos (by rfl)]
       refine wp_load_mid _ _ rfl _ _ rfl ds _ ra hu rfl ia ?_
       refine hK _ _ ?_
       clear hK K
       simp only [Act.put,List.getElem_toArray,List.getElem_cons_succ,List.getElem_cons_zero,List.setIfInBounds_toArray,List.set_cons_zero,List.set_cons_succ]
       refine wpAny_take (i:=14) (v:=?vx43) rfl (by kernel_rfl) (by kernel_rfl) (by kernel_rfl) (fun _ _ _ h=>h) (Or.inl ⟨by rfl,?yx43⟩) ?rx43
       case yx43=>first | (intro w;go_simp;done) | (intro w;go_simp;with_reducible rfl)
       simp only [Act.put,List.getElem_toArray,List.getElem_cons_succ,List.getElem_cons_zero,List.setIfInBounds_toArray,List.set_cons_zero,List.set_cons_succ]
       refine wpAny_ready (rs:=[15]) (by kernel_rfl) (by simp) ?_
       refine AllReady.cons rfl (fun K hK=>?_) AllReady.nil
       rw [if_pos (by rfl)]
       refine wp_store_mid _ _ _ rfl _ _ (List.toArray ds) rfl rfl (there_len t1 la) (by rw [List.size_toArray];exact ia) (all_oneCell_toArray oa) ?_
       refine hK _ _ ?_
       clear hK K
       simp only [Act.put,List.getElem_toArray,List.getElem_cons_succ,List.getElem_cons_zero]
       refine wpAny_take (i:=16) (v:=?vx44) rfl (by kernel_rfl) (by kernel_rfl) (by kernel_rfl) (fun _ _ _ h=>h) (Or.inl ⟨by rfl,?yx44⟩) ?rx44
       case yx44=>first | (intro w;go_simp;done) | (intro w;go_simp;with_reducible rfl)
       simp only [Act.put,List.getElem_toArray,List.getElem_cons_succ,List.getElem_cons_zero,List.setIfInBounds_toArray,List.set_cons_zero,List.set_cons_succ]
       refine wpAny_ready (rs:=[17]) (by kernel_rfl) (by simp) ?_
       refine AllReady.cons rfl (fun K hK=>?_) AllReady.nil
       rw [if_pos (by rfl)]
       refine wp_store_mid _ _ _ rfl _ _ (List.toArray cs) rfl rfl (there_len t2' lc) (by rw [List.size_toArray];exact ic) (all_oneCell_toArray oc) ?_
       refine hK _ _ ?_
       clear hK K
       simp only [Act.put,List.getElem_toArray,List.getElem_cons_succ,List.getElem_cons_zero]
       refine wpAny_done (by kernel_rfl) ?_ _
       go_wp2_with fail
       go_roundw
       case rel=>exact⟨q,by omega,by go_num,unhide fin⟩
       case measure=>simp [intOf]
  ·have hi':¬ (k:Int)<(X.length:Int):=by omega
   have e:k=X.length:=by omega
   rw [e] at hm
   clear e
   go_wp2_with fail
   exact end0 rfl rfl ⟨rfl,unhide hm⟩
end Go.Proofs.YtnlllcgcaddhmaaGreatDoor.pio
namespace Go.Proofs.YtnlllcgcaddhmaaGreatDoor.cso
open Go.ChangeShapes Go.WideShapes Go.ChangeAt Go.RowKit
open sl (Sl Own ints hide unhide grown_refl grown_trans grown_drewN below_of of_below)
open css (Sls OwnS tot)
open cf (Box)
open gr (MidF)
open ok (cnfB)
open ro (cells8 size8 pad pad_len one8 infoRow lits8 lits8_pad)
open mk (Fine)
open cs (Up good oneAll oneAll_mem oneAll_nodup oneAll_len cnfS cnfS_of cnfS_len good_ok good_24 good_len)
open le (lessL)
open rws (cellsR cellsR_len row_kept grown_past)
open pio (Lie OutI rowC rowC_len rowC_one end0)
open srt (Tab)
set_option linter.unusedVariables false
attribute [local go_sem ↓] Go.wp_at_zero Go.wp_at_succ
def srtB (n:Int)(LL:List (List Int)):Bool:=cnfB n LL
def srtN (n:Int)(LL:List (List Int)):Int:=if cnfB n LL then n else 0
def srtR (n:Int)(LL:List (List Int)):List (List Int):=if cnfB n LL then cnfS LL else []
theorem srt_no {n:Int}{LL:List (List Int)}(h:cnfB n LL=false):srtN n LL=0∧srtR n LL=[]∧srtB n LL=false:=by
 unfold srtN srtR srtB
 rw [h]
 exact⟨rfl,rfl,rfl⟩
theorem srt_yes {n:Int}{LL:List (List Int)}(h:cnfB n LL=true):srtN n LL=n∧srtR n LL=cnfS LL∧srtB n LL=true:=by
 unfold srtN srtR srtB
 rw [h]
 exact⟨rfl,rfl,rfl⟩
theorem ownS_nil (lo hi:Nat)(w:World):OwnS lo hi w (.slice none 0 0) [] :=
 ⟨[],rfl,World.ownsRow_nil ..,(fun k e=>by cases e),(fun p hp=>by cases hp),.nil⟩
def ini (w:World)(n:Int)(v:Value):World:=(w.alloc (.cells #[.int .i64 n,v] 26)).alloc (.cells #[.int .i64 0,.slice none 0 0] 26)
theorem ini_grown (w:World)(n:Int)(v:Value):w.grownBy (ini w n v) none:=grown_trans (World.grownBy_alloc _ _ _) (World.grownBy_alloc _ _ _)
theorem ini_box0 (w:World)(n:Int)(v:Value):Box 26 (ini w n v) w.heap.size (.int .i64 n) v:=(Box.new 26 w (.int .i64 n) v).kept (World.grownBy_alloc _ _ _)
theorem ini_box1 (w:World)(n:Int)(v:Value):Box 26 (ini w n v) (w.heap.size+1) (.int .i64 0) (.slice none 0 0):=by
 have:=Box.new 26 (w.alloc (.cells #[.int .i64 n,v] 26)) (.int .i64 0) (.slice none 0 0)
 rw [World.size_alloc] at this
 exact this
theorem ret_no {fn:Func}{p u:Tmp}{a:Act}{w w1:World}{n:Int}{LL:List (List Int)}(hb:Box 26 w1 (w.heap.size+1) (.int .i64 0) (.slice none 0 0))(g:w.grownBy w1 none)(h:cnfB n LL=false)
  (hr:fn.results=#[.cell p 26,.tmp u]) (hp:a.tmps.getD p undef=.pointer (some ⟨w.heap.size+1,0,none⟩)) (hu:a.tmps.getD u undef=.bool false) (hd:a.defers=[]) :
  bodyPost Tryz.prog fn (fun e w'=>∃ q,e=.returned (.tuple #[.agg #[.int .i64 (srtN n LL),q],.bool (srtB n LL)])∧OwnS w.heap.size w'.heap.size w' q (srtR n LL)∧w.grownBy w' none) Exit.ret a ((w1.setCell ⟨w.heap.size+1,0,none⟩ (.int .i64 0)).setCell ⟨w.heap.size+1,1,none⟩ (.slice none 0 0)):=by
 refine bodyPost_ret (cf.ret_box2 hr hp ((hb.set0 (.int .i64 0)).set1 (.slice none 0 0))) hd ⟨.slice none 0 0,?_,?_,cf.grown_set (cf.grown_set g (by omega)) (by omega)⟩
 ·rw [hu,(srt_no h).1,(srt_no h).2.2]
 ·rw [(srt_no h).2.1]
  exact ownS_nil _ _ _
theorem midA {w w2:World}{n:Int}{len:Nat}{Bs:List (Nat × Value × Value)}(g:w.grownBy w2 none)(hl:len≤1048576)(hB:∀ b∈Bs,Box 26 w2 b.1 b.2.1 b.2.2) :
  MidF w ((w2.alloc (.cells (madeCells #[.slice none 0 0] len) 34)).alloc (.cells #[.int .i64 n,.slice (some ⟨w2.heap.size,0,none⟩) 0 len] 26)).drew (w2.heap.size+1) n [] Bs:=by
 have gs:=g.size
 have g1:=World.grownBy_alloc w2 (.cells (madeCells #[.slice none 0 0] len) 34) none
 have g2:=World.grownBy_alloc (w2.alloc (.cells (madeCells #[.slice none 0 0] len) 34)) (.cells #[.int .i64 n,.slice (some ⟨w2.heap.size,0,none⟩) 0 len] 26) none
 have gd:=cf.grown_drew ((w2.alloc (.cells (madeCells #[.slice none 0 0] len) 34)).alloc (.cells #[.int .i64 n,.slice (some ⟨w2.heap.size,0,none⟩) 0 len] 26)) none
 have gg:=grown_trans (r:=none) (grown_trans (r:=none) g1 g2) gd
 refine⟨by omega,grown_trans g gg,fun b hb=>⟨?_,(hB b hb).kept gg⟩,some ⟨w2.heap.size,0,none⟩,len,?_,?_⟩
 ·have:=(hB b hb).lt
  omega
 ·have:=(Box.new 26 (w2.alloc (.cells (madeCells #[.slice none 0 0] len) 34)) (.int .i64 n) (.slice (some ⟨w2.heap.size,0,none⟩) 0 len)).kept gd
  rw [World.size_alloc] at this
  exact this
 ·exact (((gr.ownS_made w2 len w.heap.size gs hl).kept g2).kept gd).sub (Nat.le_refl _) (by show _≤(World.alloc _ _).heap.size;rw [World.size_alloc,World.size_alloc];omega)
theorem midB {w w2:World}{n:Int}{len:Nat}{Bs:List (Nat × Value × Value)}(g:w.grownBy w2 none)(hl:len≤1048576)(hB:∀ b∈Bs,Box 26 w2 b.1 b.2.1 b.2.2) :
  MidF w ((w2.alloc (.cells #[.int .i64 n,.slice (some ⟨w2.heap.size+1,0,none⟩) 0 len] 26)).alloc (.cells (madeCells #[.slice none 0 0] len) 34)).drew w2.heap.size n [] Bs:=by
 have gs:=g.size
 have g1:=World.grownBy_alloc w2 (.cells #[.int .i64 n,.slice (some ⟨w2.heap.size+1,0,none⟩) 0 len] 26) none
 have g2:=World.grownBy_alloc (w2.alloc (.cells #[.int .i64 n,.slice (some ⟨w2.heap.size+1,0,none⟩) 0 len] 26)) (.cells (madeCells #[.slice none 0 0] len) 34) none
 have gd:=cf.grown_drew ((w2.alloc (.cells #[.int .i64 n,.slice (some ⟨w2.heap.size+1,0,none⟩) 0 len] 26)).alloc (.cells (madeCells #[.slice none 0 0] len) 34)) none
 have gg:=grown_trans (r:=none) (grown_trans (r:=none) g1 g2) gd
 refine⟨by omega,grown_trans g gg,fun b hb=>⟨?_,(hB b hb).kept gg⟩,some ⟨w2.heap.size+1,0,none⟩,len,?_,?_⟩
 ·have:=(hB b hb).lt
  omega
 ·exact ((Box.new 26 w2 (.int .i64 n) (.slice (some ⟨w2.heap.size+1,0,none⟩) 0 len)).kept g2).kept gd
 ·have:=gr.ownS_made (w2.alloc (.cells #[.int .i64 n,.slice (some ⟨w2.heap.size+1,0,none⟩) 0 len] 26)) len w.heap.size (by rw [World.size_alloc];omega) hl
  rw [World.size_alloc] at this
  exact (this.kept gd).sub (Nat.le_refl _) (by show _≤(World.alloc _ _).heap.size;rw [World.size_alloc,World.size_alloc];omega)
theorem putNil (w:World):Calls Tryz.prog 70 #[.slice none 0 0,.func (.func 71) #[] #[]] w fun e w'=>e=.returned (.tuple #[])∧w'=w:=by
 go_enter Tryz.func70,Tryz.ntmps70
 go_wp2_with fail
 go_loop [8] (fun i=>i=.int .i64 0) (fun _=>0)
 case atStart=>rfl
 case round =>
  subst hrel
  go_wp2_with fail
  exact end0 rfl rfl ⟨rfl,rfl⟩
theorem putAny (lo:Nat)(u:Value)(X:List (List Int))(w:World)(hX:∀ L∈X,Fine L)(hn:X.Nodup)(hl:X.length≤1048576)(h:w.ownsRow lo 101 24 u X.length (cellsR X)) :
  Calls Tryz.prog 70 #[u,.func (.func 71) #[] #[]] w fun e w'=>e=.returned (.tuple #[])∧∃ X',w'.ownsRow lo 101 24 u X'.length (cellsR X')∧Up lessL X'∧(∀ x,x∈X'↔x∈X)∧w.grownBy w' u.ownBlock:=by
 have h':=h
 rcases h.2 with ⟨rfl,h0⟩ | ⟨g,cap,cur,rfl,_⟩
 ·have e:X=[]:=List.eq_nil_of_length_eq_zero h0
  subst e
  exact (putNil w).mono fun e w' h=>⟨h.1,[],by rw [h.2];exact h',List.Pairwise.nil,by simp,by rw [h.2];exact grown_refl w⟩
 ·exact (pio.putInOrder lo g cap X w hX hn hl h').mono fun e w' h=>by
   obtain⟨h1,h2,S,h3,h4,h5,h6⟩:=h
   rw [List.drop_eq_nil_of_le (Nat.le_refl _),List.append_nil] at h3
   rw [List.take_of_length_le (Nat.le_refl _)] at h6
   exact⟨h1,S,by rw [h4];exact h3,h5,h6,h2⟩
theorem grown_own {w w1 w2:World}{v:Value}{lo n z:Nat}{xs:List Value}{t:TypeId}(g:w.grownBy w1 none)(h:w1.ownsRow lo t z v n xs)(hlo:w.heap.size≤lo)(g1:w1.grownBy w2 v.ownBlock):w.grownBy w2 none :=
 ⟨g1.os.trans g.os,g1.tape.trans g.tape,g1.output.trans g.output,Nat.le_trans g.size g1.size,fun k hk _=>by
  rw [g1.block k (Nat.lt_of_lt_of_le hk g.size) (fun e=>by have:=(h.lt k e.symm).1;omega)]
  exact g.block k hk (fun e=>by cases e)⟩
theorem rows_form {lo:Nat}{w:World}{u:Value}{X:List (List Int)}(h:w.ownsRow lo 101 24 u X.length (cellsR X)):∃ ua uc,u=.slice ua X.length uc∧(X=[]∨∃ g,ua=some ⟨g,0,none⟩∧Lie lo w g X.length uc X):=by
 have h':=h
 rcases h.2 with ⟨rfl,h0⟩ | ⟨g,cap,cur,rfl,_⟩
 ·exact⟨none,0,by rw [h0],.inl (List.eq_nil_of_length_eq_zero h0)⟩
 ·exact⟨_,cap,rfl,.inr ⟨g,rfl,h'⟩⟩
theorem fine_good {LL:List (List Int)}:∀ L∈oneAll (good LL),Fine L:=fun L hL=>⟨good_24 ((oneAll_mem _).1 hL),good_ok ((oneAll_mem _).1 hL)⟩
theorem fine_srt {LL:List (List Int)}:∀ L∈cnfS LL,Fine L:=fun L hL=>⟨good_24 (cs.cnfS_mem.1 hL),good_ok (cs.cnfS_mem.1 hL)⟩
set_option maxRecDepth 10000 in
set_option maxHeartbeats 4000000 in
theorem implCnfSort (v:Value)(n:Int)(LL:List (List Int))(w:World)(hT:Tab w)(hn:tot LL≤1048576)(hv:Sls w v LL) :
  Calls Tryz.prog 34 #[.agg #[.int .i64 n,v]] w fun e w'=>∃ u,e=.returned (.tuple #[.agg #[.int .i64 (srtN n LL),u],.bool (srtB n LL)])∧OwnS w.heap.size w'.heap.size w' u (srtR n LL)∧w.grownBy w' none:=by
 have hl:=Nat.le_trans (css.tot_len LL) hn
 have cc:=ok.implCnfOk v n LL (ini w n v) hn (hv.kept (ini_grown w n v))
 have I0:=hide (ini_grown w n v)
 have I1:=hide (ini_box0 w n v)
 have I2:=hide (ini_box1 w n v)
 unfold ini at cc I0 I1 I2
 cases hb:cnfB n LL
 ·rw [hb] at cc
  have CC:=hide cc
  have E:=hide hb
  clear cc hb hv
  go_enter Tryz.func34,Tryz.ntmps34
  go_wp2_with fail
  refine (unhide CC).mono ?_;rintro e w2 ⟨rfl,g2⟩
  have b2:=(unhide I2).kept g2
  have r0:=b2.c0
  have r1:=b2.c1
  have f0:=b2.f 0
  have f1:=b2.f 1
  have B2:=hide b2
  have G2:=hide (grown_trans (r:=none) (unhide I0) g2)
  clear b2 g2
  go_wp2_with fail
  (try simp only [Exit.inBlock,Exit.then])
  exact ret_no (unhide B2) (unhide G2) (unhide E) rfl (by rfl) (by rfl) (by rfl)
 ·rw [hb] at cc
  have CC:=hide cc
  have E:=hide hb
  have HV:=hide hv
  have HT:=hide hT
  obtain⟨a,cap,rfl,_⟩:=hv
  clear cc hb hT
  go_enter Tryz.func34,Tryz.ntmps34
  go_wp2_with fail
  refine (unhide CC).mono ?_;rintro e w2 ⟨rfl,g2⟩
  have b1:=(unhide I1).kept g2
  have B2:=hide ((unhide I2).kept g2)
  have B1:=hide b1
  have k0:=b1.c0
  have k1:=b1.c1
  have G2:=hide (grown_trans (r:=none) (unhide I0) g2)
  clear b1 g2 CC I0 I1 I2
  go_wp2_with fail
  refine (rws.rowsOf (.slice a LL.length cap) LL w2 ((unhide HT).kept (unhide G2)) hn ((unhide HV).kept (unhide G2))).mono ?_;rintro e w3 ⟨u,rfl,o3,g3⟩
  have lo3:w.heap.size≤w2.heap.size:=(unhide G2).size
  have cp:=putAny w2.heap.size u (oneAll (good LL)) w3 fine_good (oneAll_nodup _) (Nat.le_trans (oneAll_len _) (Nat.le_trans (good_len _) hl)) o3
  have CP:=hide cp
  have O3:=hide o3
  have G3:=hide g3
  clear cp o3 g3 k0 k1
  go_wp2_with fail
  refine (unhide CP).mono ?_;rintro e w4 ⟨rfl,X,o4,u4,m4,g4⟩
  obtain rfl:X=cnfS LL:=cnfS_of u4 m4
  have G24:=grown_own (unhide G3) (unhide O3) (Nat.le_refl _) g4
  have b1:=(unhide B1).kept G24
  have b2:=(unhide B2).kept G24
  have G4:=hide (grown_trans (r:=none) (unhide G2) G24)
  have SR:=hide (srt_yes (unhide E))
  have hXf:=hide (fine_srt (LL:=LL))
  have hXl:=cnfS_len LL
  generalize cnfS LL=X at *
  have hX2:X.length≤1048576:=by omega
  obtain⟨ua,uc,rfl,FR⟩:=rows_form o4
  have HR:=hide FR
  have BB:Hid (∀ b∈[(w.heap.size,Value.int .i64 n,Value.slice a LL.length cap),(w.heap.size+1,Value.int .i64 0,Value.slice none 0 0)],Box 26 w4 b.1 b.2.1 b.2.2):=by
   intro b hb
   simp only [List.mem_cons,List.not_mem_nil,or_false] at hb
   rcases hb with rfl | rfl
   ·exact b1
   ·exact b2
  have k0:=b1.c0
  have k1:=b1.c1
  clear FR b1 b2 G24 g4 u4 m4 O3 G3 G2 B1 B2 CP HV HT o4 hXl E
  go_upto_region 5 with fail
  go_cut [5] (fun p wx=>∃ c,p=.pointer (some ⟨c,0,none⟩)∧Hid (MidF w4 wx c n [] [(w.heap.size,Value.int .i64 n,Value.slice a LL.length cap),(w.heap.size+1,Value.int .i64 0,Value.slice none 0 0)]))
  case first =>
   have hmk:=gr.mk0 X.length hX2
   have hp:(0:Int)≤(X.length:Int):=Int.natCast_nonneg _
   have MA:=hide (midA (n:=n) (grown_refl w4) hX2 (unhide BB))
   have MB:=hide (midB (n:=n) (grown_refl w4) hX2 (unhide BB))
   clear BB G4 HR
   have ne0:=World.new_ne w4 _ k0
   go_region_held3 (fun w'=>w'.cell? ⟨w.heap.size,0,none⟩=some (.int .i64 n)) (go_keep) (fail)
   all_goals go_wp2_with fail
   ·go_meet
    exact⟨_,rfl,MA⟩
   ·go_meet
    exact⟨_,rfl,MB⟩
  case rest =>
   obtain⟨c,rfl,hm0⟩:=hcut
   clear BB k0 k1
   go_wp2_with fail
   go_loopw [25] (fun i wr=>∃ k:Nat,k≤X.length∧i=.int .i64 k∧Hid (MidF w4 wr c n (X.take k) [(w.heap.size,Value.int .i64 n,Value.slice a LL.length cap),(w.heap.size+1,Value.int .i64 0,Value.slice none 0 0)])) (fun i _=>X.length - (intOf i).toNat)
   case atStart=>exact⟨0,Nat.zero_le _,rfl,hm0⟩
   case round =>
    obtain⟨k,hk,rfl,hm⟩:=hrel
    clear hm0
    by_cases hlt:k<X.length
    ·rcases unhide HR with h | ⟨g,rfl,hLie⟩
     ·rw [h] at hlt
      simp at hlt
     ·have hg:=(unhide hm).grown
      have hi':(k:Int)<(X.length:Int):=by omega
      have h0':(0:Int)≤(k:Int):=by omega
      have hts:=css.take_snoc X k hlt
      have hfc:Fine (X.getD k []):=unhide hXf _ (by rw [show X.getD k []=X[k] by simp [hlt]];exact List.getElem_mem hlt)
      have hsp:X=X.take k++X.getD k []::X.drop (k+1):=by
       rw [show X.getD k []=X[k] by simp [hlt],←List.drop_eq_getElem_cons hlt,List.take_append_drop]
      have hL2:Lie w2.heap.size w4 g X.length uc (X.take k++X.getD k []::X.drop (k+1)):=by rw [←hsp];exact hLie
      have rg:wr.rangeAt g (k*24) (rowC (X.getD k [])):=pio.range_kept (hL2.range (fun L hL=>unhide hXf L (List.mem_of_mem_take hL)) (by rw [List.length_take,Nat.min_eq_left (by omega)])) hg
      generalize X.getD k []=d at *
      have HTS:=hide hts
      have hM:(X.take k).length≤1048576:=by rw [List.length_take];omega
      generalize X.take k=M at *
      have hu:=Tryz.underlying101
      have la:=rowC_len hfc
      have oa:=rowC_one d
      have ia:(Tryz.prog.info? 101).map (·.size)=some (rowC d).length:=by rw [la];exact infoRow
      have M5:=hide ((unhide hm).kept (rws.row_new wr #[.int .i8 0,.int .i8 0,.int .i8 0,.int .i8 0,.int .i8 0,.int .i8 0,.int .i8 0,.int .i8 0,.int .i8 0,.int .i8 0,.int .i8 0,.int .i8 0,.int .i8 0,.int .i8 0,.int .i8 0,.int .i8 0,.int .i8 0,.int .i8 0,.int .i8 0,.int .i8 0,.int .i8 0,.int .i8 0,.int .i8 0,.int .i8 0] (rowC d).toArray))
      have hr:=Go.heap_alloc_new wr (.cells #[.int .i8 0,.int .i8 0,.int .i8 0,.int .i8 0,.int .i8 0,.int .i8 0,.int .i8 0,.int .i8 0,.int .i8 0,.int .i8 0,.int .i8 0,.int .i8 0,.int .i8 0,.int .i8 0,.int .i8 0,.int .i8 0,.int .i8 0,.int .i8 0,.int .i8 0,.int .i8 0,.int .i8 0,.int .i8 0,.int .i8 0,.int .i8 0] 101)
      have ia2:(Tryz.prog.info? 101).map (·.size)=some (rowC d).toArray.size:=by rw [List.size_toArray];exact ia
      have one:(rowC d).toArray.all (·.oneCell')=true:=all_oneCell_toArray oa
      have hg5:=setRow_heap (wr.alloc (.cells #[.int .i8 0,.int .i8 0,.int .i8 0,.int .i8 0,.int .i8 0,.int .i8 0,.int .i8 0,.int .i8 0,.int .i8 0,.int .i8 0,.int .i8 0,.int .i8 0,.int .i8 0,.int .i8 0,.int .i8 0,.int .i8 0,.int .i8 0,.int .i8 0,.int .i8 0,.int .i8 0,.int .i8 0,.int .i8 0,.int .i8 0,.int .i8 0] 101)) wr.heap.size _ (rowC d).toArray _ _ hr
      have CL:=fun w'=>ro.rowList (pad d) w' (pad_len hfc.1) (mk.pad_bd hfc)
      rw [lits8_pad d (fun x hx=>(lits.okB_iff.1 (hfc.2 x hx)).1),show cells8 (pad d)=(rowC d).toArray by simp [pio.rowC]] at CL
      have HCL:=hide CL
      have HG5:=hide hg5
      clear hsp hL2 hLie hts hm hfc CL hg5 HR hg
      generalize rowC d=cs at *
      go_wp2_with (first | (refine wpList_load_mid rfl 101 _ rfl g (k*24) rfl cs _ rg hu rfl ia ?_) | (refine wpList_store_row rfl 101 _ _ rfl wr.heap.size cs.toArray rfl rfl 101 _ hr ia2 ?_ ?_ ?_))
      ·exact (show (24:Nat)=cs.toArray.size by rw [List.size_toArray,la])
      ·exact one
      generalize hW5:(wr.alloc (.cells #[.int .i8 0,.int .i8 0,.int .i8 0,.int .i8 0,.int .i8 0,.int .i8 0,.int .i8 0,.int .i8 0,.int .i8 0,.int .i8 0,.int .i8 0,.int .i8 0,.int .i8 0,.int .i8 0,.int .i8 0,.int .i8 0,.int .i8 0,.int .i8 0,.int .i8 0,.int .i8 0,.int .i8 0,.int .i8 0,.int .i8 0,.int .i8 0] 101)).setRow wr.heap.size cs.toArray=w5 at *
      clear hW5 hr rg one ia2
      have rg:w5.rangeAt wr.heap.size 0 cs:=by
       intro j v hv
       rw [Nat.zero_add,cell_of_row _ _ j cs.toArray _ _ (unhide HG5)]
       simpa using hv
      generalize wr.heap.size=b7 at *
      obtain⟨q0,q1,q2,oa',ocap,q3,q4⟩:=unhide M5
      have o1:=q3.c1
      have Q0:=hide q0
      have Q1:=hide q1
      have Q2:=hide q2
      have Q3:=hide q3
      have Q4:=hide q4
      clear M5 q0 q1 q2 q3 q4 HG5
      refine pio.region_drew (by kernel_rfl) ?_
      refine wpAny_take (i:=0) (v:=?vz1) rfl (by kernel_rfl) (by kernel_rfl) (by kernel_rfl) (fun _ _ _ h=>h) (Or.inl ⟨by rfl,?yz1⟩) ?rz1
      case yz1=>first | (intro w;go_simp;done) | (intro w;go_simp;with_reducible rfl)
      simp only [Act.put,List.getElem_toArray,List.getElem_cons_zero,List.setIfInBounds_toArray,List.set_cons_zero,List.set_cons_succ]
      refine wpAny_ready (rs:=[1,2]) (by kernel_rfl) (by simp) ?_
      refine AllReady.cons rfl (fun K hK=>?_) (AllReady.cons rfl (fun K hK=>?_) AllReady.nil)
      ·rw [if_pos (by rfl)]
       simp only [List.getElem_toArray,List.getElem_cons_succ,List.getElem_cons_zero]
       go_simp
       refine hK _ _ ?_
       clear hK K
       refine wpAny_ready (rs:=[2]) (by kernel_rfl) (by simp) ?_
       refine AllReady.cons rfl (fun K hK=>?_) AllReady.nil
       rw [if_pos (by rfl)]
       refine wp_load_mid _ _ rfl _ _ rfl cs _ rg hu rfl ia ?_
       refine hK _ _ ?_
       clear hK K
       simp only [Act.put,List.getElem_toArray,List.getElem_cons_succ,List.getElem_cons_zero,List.setIfInBounds_toArray,List.set_cons_zero,List.set_cons_succ]
       refine wpAny_ready (rs:=[3]) (by kernel_rfl) (by simp) ?_
       refine AllReady.cons rfl (fun K hK=>?_) AllReady.nil
       rw [if_pos (by rfl)]
       simp only [List.getElem_toArray,List.getElem_cons_succ,List.getElem_cons_zero]
       go_simp
       refine (unhide HCL w5.drew).mono ?_
       rintro e w6 ⟨u6,rfl,o6,g6⟩
       obtain⟨ya,yc,rfl,_⟩:=(sl.Own.of o6).sl
       have G6:=hide (grown_trans (r:=none) (cf.grown_drew w5 none) g6)
       have U6:=hide (sl.Own.of o6)
       have k1:=((unhide Q3).kept (unhide G6)).c1
       have k2:=((unhide Q3).kept (unhide G6)).f 1
       have k9:=(((unhide Q3).kept (unhide G6)).kept (World.grownBy_alloc w6 (.cells #[.slice ya d.length yc] 34) none)).c1
       clear o6 g6
       refine hK _ _ ?_
       clear hK K
       refine wpAny_ready (rs:=[4]) (by kernel_rfl) (by simp) ?_
       refine AllReady.cons rfl (fun K hK=>?_) AllReady.nil
       rw [if_pos (by rfl)]
       simp only [List.getElem_toArray,List.getElem_cons_succ,List.getElem_cons_zero]
       go_simp
       refine hK _ _ ?_
       clear hK K
       refine wpAny_ready (rs:=[5]) (by kernel_rfl) (by simp) ?_
       refine AllReady.cons rfl (fun K hK=>?_) AllReady.nil
       refine gr.stepR ((unhide Q4).kept (unhide G6)) (unhide U6) (unhide Q1).size (unhide G6).size hM (by rfl) _ _ (by rfl) (by rfl) (by rfl) ?_
       intro g7 cap7 w7 h7 g7'
       have R7:=hide (gr.MidF.step (unhide Q0) (unhide Q1) (unhide Q2) (unhide Q3) (unhide Q4) (unhide G6) h7 g7')
       have k3:=(unhide R7).1.1
       have k4:=(unhide R7).1.2.1
       clear h7 g7'
       refine hK _ _ ?_
       clear hK K
       simp only [Act.put,List.getElem_toArray,List.getElem_cons_succ,List.getElem_cons_zero,List.setIfInBounds_toArray,List.set_cons_zero,List.set_cons_succ]
       refine wpAny_take (i:=6) (v:=?vz2) rfl (by kernel_rfl) (by kernel_rfl) (by kernel_rfl) (fun _ _ _ h=>h) (Or.inl ⟨by rfl,?yz2⟩) ?rz2
       case yz2=>first | (intro w;go_simp;done) | (intro w;go_simp;with_reducible rfl)
       simp only [Act.put,List.getElem_toArray,List.getElem_cons_succ,List.getElem_cons_zero,List.setIfInBounds_toArray,List.set_cons_zero,List.set_cons_succ]
       refine wpAny_ready (rs:=[7]) (by kernel_rfl) (by simp) ?_
       refine AllReady.cons rfl (fun K hK=>?_) AllReady.nil
       rw [if_pos (by rfl)]
       simp only [List.getElem_toArray,List.getElem_cons_succ,List.getElem_cons_zero]
       go_simp
       refine hK _ _ ?_
       clear hK K
       refine wpAny_done (by kernel_rfl) ?_ _
       go_wp2_with fail
       go_roundw
       case rel=>exact⟨k+1,by omega,by go_num,by rw [unhide HTS];exact (unhide R7).2⟩
       case measure=>simp [intOf];omega
      ·rw [if_pos (by rfl)]
       refine wp_load_mid _ _ rfl _ _ rfl cs _ rg hu rfl ia ?_
       refine hK _ _ ?_
       clear hK K
       simp only [Act.put,List.getElem_toArray,List.getElem_cons_succ,List.getElem_cons_zero,List.setIfInBounds_toArray,List.set_cons_zero,List.set_cons_succ]
       refine wpAny_ready (rs:=[1,3]) (by kernel_rfl) (by simp) ?_
       refine AllReady.cons rfl (fun K hK=>?_) (AllReady.cons rfl (fun K hK=>?_) AllReady.nil)
       ·rw [if_pos (by rfl)]
        simp only [List.getElem_toArray,List.getElem_cons_succ,List.getElem_cons_zero]
        go_simp
        refine hK _ _ ?_
        clear hK K
        refine wpAny_ready (rs:=[3]) (by kernel_rfl) (by simp) ?_
        refine AllReady.cons rfl (fun K hK=>?_) AllReady.nil
        rw [if_pos (by rfl)]
        simp only [List.getElem_toArray,List.getElem_cons_succ,List.getElem_cons_zero]
        go_simp
        refine (unhide HCL w5.drew).mono ?_
        rintro e w6 ⟨u6,rfl,o6,g6⟩
        obtain⟨ya,yc,rfl,_⟩:=(sl.Own.of o6).sl
        have G6:=hide (grown_trans (r:=none) (cf.grown_drew w5 none) g6)
        have U6:=hide (sl.Own.of o6)
        have k1:=((unhide Q3).kept (unhide G6)).c1
        have k2:=((unhide Q3).kept (unhide G6)).f 1
        have k9:=(((unhide Q3).kept (unhide G6)).kept (World.grownBy_alloc w6 (.cells #[.slice ya d.length yc] 34) none)).c1
        clear o6 g6
        refine hK _ _ ?_
        clear hK K
        refine wpAny_ready (rs:=[4]) (by kernel_rfl) (by simp) ?_
        refine AllReady.cons rfl (fun K hK=>?_) AllReady.nil
        rw [if_pos (by rfl)]
        simp only [List.getElem_toArray,List.getElem_cons_succ,List.getElem_cons_zero]
        go_simp
        refine hK _ _ ?_
        clear hK K
        refine wpAny_ready (rs:=[5]) (by kernel_rfl) (by simp) ?_
        refine AllReady.cons rfl (fun K hK=>?_) AllReady.nil
        refine gr.stepR ((unhide Q4).kept (unhide G6)) (unhide U6) (unhide Q1).size (unhide G6).size hM (by rfl) _ _ (by rfl) (by rfl) (by rfl) ?_
        intro g7 cap7 w7 h7 g7'
        have R7:=hide (gr.MidF.step (unhide Q0) (unhide Q1) (unhide Q2) (unhide Q3) (unhide Q4) (unhide G6) h7 g7')
        have k3:=(unhide R7).1.1
        have k4:=(unhide R7).1.2.1
        clear h7 g7'
        refine hK _ _ ?_
        clear hK K
        simp only [Act.put,List.getElem_toArray,List.getElem_cons_succ,List.getElem_cons_zero,List.setIfInBounds_toArray,List.set_cons_zero,List.set_cons_succ]
        refine wpAny_take (i:=6) (v:=?vz3) rfl (by kernel_rfl) (by kernel_rfl) (by kernel_rfl) (fun _ _ _ h=>h) (Or.inl ⟨by rfl,?yz3⟩) ?rz3
        case yz3=>first | (intro w;go_simp;done) | (intro w;go_simp;with_reducible rfl)
        simp only [Act.put,List.getElem_toArray,List.getElem_cons_succ,List.getElem_cons_zero,List.setIfInBounds_toArray,List.set_cons_zero,List.set_cons_succ]
        refine wpAny_ready (rs:=[7]) (by kernel_rfl) (by simp) ?_
        refine AllReady.cons rfl (fun K hK=>?_) AllReady.nil
        rw [if_pos (by rfl)]
        simp only [List.getElem_toArray,List.getElem_cons_succ,List.getElem_cons_zero]
        go_simp
        refine hK _ _ ?_
        clear hK K
        refine wpAny_done (by kernel_rfl) ?_ _
        go_wp2_with fail
        go_roundw
        case rel=>exact⟨k+1,by omega,by go_num,by rw [unhide HTS];exact (unhide R7).2⟩
        case measure=>simp [intOf];omega
       ·rw [if_pos (by rfl)]
        simp only [List.getElem_toArray,List.getElem_cons_succ,List.getElem_cons_zero]
        go_simp
        refine (unhide HCL w5.drew).mono ?_
        rintro e w6 ⟨u6,rfl,o6,g6⟩
        obtain⟨ya,yc,rfl,_⟩:=(sl.Own.of o6).sl
        have G6:=hide (grown_trans (r:=none) (cf.grown_drew w5 none) g6)
        have U6:=hide (sl.Own.of o6)
        have k1:=((unhide Q3).kept (unhide G6)).c1
        have k2:=((unhide Q3).kept (unhide G6)).f 1
        have k9:=(((unhide Q3).kept (unhide G6)).kept (World.grownBy_alloc w6 (.cells #[.slice ya d.length yc] 34) none)).c1
        clear o6 g6
        refine hK _ _ ?_
        clear hK K
        refine wpAny_ready (rs:=[1,4]) (by kernel_rfl) (by simp) ?_
        refine AllReady.cons rfl (fun K hK=>?_) (AllReady.cons rfl (fun K hK=>?_) AllReady.nil)
        ·rw [if_pos (by rfl)]
         simp only [List.getElem_toArray,List.getElem_cons_succ,List.getElem_cons_zero]
         go_simp
         refine hK _ _ ?_
         clear hK K
         refine wpAny_ready (rs:=[4]) (by kernel_rfl) (by simp) ?_
         refine AllReady.cons rfl (fun K hK=>?_) AllReady.nil
         rw [if_pos (by rfl)]
         simp only [List.getElem_toArray,List.getElem_cons_succ,List.getElem_cons_zero]
         go_simp
         refine hK _ _ ?_
         clear hK K
         refine wpAny_ready (rs:=[5]) (by kernel_rfl) (by simp) ?_
         refine AllReady.cons rfl (fun K hK=>?_) AllReady.nil
         refine gr.stepR ((unhide Q4).kept (unhide G6)) (unhide U6) (unhide Q1).size (unhide G6).size hM (by rfl) _ _ (by rfl) (by rfl) (by rfl) ?_
         intro g7 cap7 w7 h7 g7'
         have R7:=hide (gr.MidF.step (unhide Q0) (unhide Q1) (unhide Q2) (unhide Q3) (unhide Q4) (unhide G6) h7 g7')
         have k3:=(unhide R7).1.1
         have k4:=(unhide R7).1.2.1
         clear h7 g7'
         refine hK _ _ ?_
         clear hK K
         simp only [Act.put,List.getElem_toArray,List.getElem_cons_succ,List.getElem_cons_zero,List.setIfInBounds_toArray,List.set_cons_zero,List.set_cons_succ]
         refine wpAny_take (i:=6) (v:=?vz4) rfl (by kernel_rfl) (by kernel_rfl) (by kernel_rfl) (fun _ _ _ h=>h) (Or.inl ⟨by rfl,?yz4⟩) ?rz4
         case yz4=>first | (intro w;go_simp;done) | (intro w;go_simp;with_reducible rfl)
         simp only [Act.put,List.getElem_toArray,List.getElem_cons_succ,List.getElem_cons_zero,List.setIfInBounds_toArray,List.set_cons_zero,List.set_cons_succ]
         refine wpAny_ready (rs:=[7]) (by kernel_rfl) (by simp) ?_
         refine AllReady.cons rfl (fun K hK=>?_) AllReady.nil
         rw [if_pos (by rfl)]
         simp only [List.getElem_toArray,List.getElem_cons_succ,List.getElem_cons_zero]
         go_simp
         refine hK _ _ ?_
         clear hK K
         refine wpAny_done (by kernel_rfl) ?_ _
         go_wp2_with fail
         go_roundw
         case rel=>exact⟨k+1,by omega,by go_num,by rw [unhide HTS];exact (unhide R7).2⟩
         case measure=>simp [intOf];omega
        ·rw [if_pos (by rfl)]
         simp only [List.getElem_toArray,List.getElem_cons_succ,List.getElem_cons_zero]
         go_simp
         refine hK _ _ ?_
         clear hK K
         refine wpAny_ready (rs:=[1]) (by kernel_rfl) (by simp) ?_
         refine AllReady.cons rfl (fun K hK=>?_) AllReady.nil
         rw [if_pos (by rfl)]
         simp only [List.getElem_toArray,List.getElem_cons_succ,List.getElem_cons_zero]
         go_simp
         refine hK _ _ ?_
         clear hK K
         refine wpAny_ready (rs:=[5]) (by kernel_rfl) (by simp) ?_
         refine AllReady.cons rfl (fun K hK=>?_) AllReady.nil
         refine gr.stepR ((unhide Q4).kept (unhide G6)) (unhide U6) (unhide Q1).size (unhide G6).size hM (by rfl) _ _ (by rfl) (by rfl) (by rfl) ?_
         intro g7 cap7 w7 h7 g7'
         have R7:=hide (gr.MidF.step (unhide Q0) (unhide Q1) (unhide Q2) (unhide Q3) (unhide Q4) (unhide G6) h7 g7')
         have k3:=(unhide R7).1.1
         have k4:=(unhide R7).1.2.1
         clear h7 g7'
         refine hK _ _ ?_
         clear hK K
         simp only [Act.put,List.getElem_toArray,List.getElem_cons_succ,List.getElem_cons_zero,List.setIfInBounds_toArray,List.set_cons_zero,List.set_cons_succ]
         refine wpAny_take (i:=6) (v:=?vz5) rfl (by kernel_rfl) (by kernel_rfl) (by kernel_rfl) (fun _ _ _ h=>h) (Or.inl ⟨by rfl,?yz5⟩) ?rz5
         case yz5=>first | (intro w;go_simp;done) | (intro w;go_simp;with_reducible rfl)
         simp only [Act.put,List.getElem_toArray,List.getElem_cons_succ,List.getElem_cons_zero,List.setIfInBounds_toArray,List.set_cons_zero,List.set_cons_succ]
         refine wpAny_ready (rs:=[7]) (by kernel_rfl) (by simp) ?_
         refine AllReady.cons rfl (fun K hK=>?_) AllReady.nil
         rw [if_pos (by rfl)]
         simp only [List.getElem_toArray,List.getElem_cons_succ,List.getElem_cons_zero]
         go_simp
         refine hK _ _ ?_
         clear hK K
         refine wpAny_done (by kernel_rfl) ?_ _
         go_wp2_with fail
         go_roundw
         case rel=>exact⟨k+1,by omega,by go_num,by rw [unhide HTS];exact (unhide R7).2⟩
         case measure=>simp [intOf];omega
    ·have hi':¬ (k:Int)<(X.length:Int):=by omega
     have e:X.take k=X:=List.take_of_length_le (by omega)
     rw [e] at hm
     have br:=(unhide hm).box (w.heap.size+1) (.int .i64 0) (.slice none 0 0) (by simp)
     obtain⟨q0,q1,q2,oa,ocap,q3,q4⟩:=unhide hm
     have r0:=br.c0
     have r1:=br.c1
     have rf0:=br.f 0
     have rf1:=br.f 1
     have o0:=q3.c0
     have o1:=q3.c1
     have BR:=hide br
     have Q1:=hide (grown_trans (r:=none) (unhide G4) q1)
     have Q4:=hide (q4.sub (lo':=w.heap.size) (unhide G4).size (Nat.le_refl _))
     clear HR hm e q0 q1 q2 q3 q4 br
     go_wp2
     (try simp only [Exit.inBlock,Exit.then])
     refine bodyPost_ret (cf.ret_box2 rfl rfl (((unhide BR).set0 (.int .i64 n)).set1 (.slice oa X.length ocap))) rfl ⟨.slice oa X.length ocap,?_,?_,?_⟩
     ·rw [(unhide SR).1,(unhide SR).2.2]
      rfl
     ·rw [(unhide SR).2.1,cf.size_set,cf.size_set]
      exact gr.ownS_set (gr.ownS_set (unhide Q4) (unhide BR)) ((unhide BR).set0 (.int .i64 n))
     ·exact cf.grown_set (cf.grown_set (unhide Q1) (by omega)) (by omega)
end Go.Proofs.YtnlllcgcaddhmaaGreatDoor.cso
namespace Go.Proofs.YtnlllcgcaddhmaaGreatDoor.cso
open Go.ChangeShapes Go.WideShapes Go.ChangeAt Go.RowKit
open sl (Sl Own ints hide unhide grown_refl grown_trans grown_drewN below_of of_below)
open css (Sls OwnS tot own_ne' own_mono Apart)
open cf (Box)
open gr (MidF box_ne ty1)
open ok (cnfB)
open cs (ins insAll at_ at_le at_go good good_yes good_no cnfS cnfS_step insAll_len good_len)
open le (lessL)
open bset (setOf)
open srt (srt okTo)
open pio (grown_wide)
set_option linter.unusedVariables false
attribute [local go_sem ↓] Go.wp_at_zero Go.wp_at_succ
theorem apart_symm {a b:Value × List Int}(h:Apart a b):Apart b a:=fun g e e'=>h g e' e
theorem outer {lo mid:Nat}{W:World}{v:Value}{M:List (List Int)}(h:OwnS lo mid W v M):∃ xs:List Value,xs.length=M.length∧W.ownsRow lo 34 1 v M.length xs∧(∀ x∈xs,x.oneCell'=true) ∧
  (∀ j,j<M.length→∃ y,xs[j]?=some y∧Sl W y (M.getD j [])) ∧
  ∀ (at0:Nat) (u:Value) (L:List Int) (w9:World) (v9:Value),Own mid W.heap.size W u L→lo≤mid→mid≤W.heap.size→w9.ownsRow lo 34 1 v9 (M.length+1) (xs.take at0++u::xs.drop at0)→W.grownBy w9 v.ownBlock →
   OwnS lo w9.heap.size w9 v9 (M.take at0++L::M.drop at0):=by
 obtain⟨D,rfl,hw,hb,hin,hp⟩:=h
 refine⟨D.map (·.1),by simp,by rw [List.length_map];exact hw,fun x hx=>?_,fun j hj=>?_,fun at0 u L w9 v9 hu hlo hmid h9 hg=>?_⟩
 ·obtain⟨p,hp1,rfl⟩:=List.mem_map.1 hx
  exact gr.own_one (hin p hp1)
 ·rw [List.length_map] at hj
  refine⟨D[j].1,by simp [hj],?_⟩
  rw [css.map2_getD hj]
  exact (hin D[j] (List.getElem_mem hj)).sl
 ·have sz:=hg.size
  have kp:∀ (p:Value) (n:Nat) (xs:List Value),W.ownsRow lo 3 1 p n xs→w9.ownsRow lo 3 1 p n xs:=fun p n xs h=>h.kept hg (own_ne' hw h)
  refine⟨D.take at0++(u,L)::D.drop at0,by simp,?_,fun k e=>(h9.lt k e).2,?_,?_⟩
  ·have e1:(D.take at0++(u,L)::D.drop at0).length=D.length+1:=by
    simp only [List.length_append,List.length_take,List.length_cons,List.length_drop]
    omega
   rw [e1]
   rw [List.length_map] at h9
   simpa using h9
  ·intro p hp'
   have hcase:p∈D∨p=(u,L):=by
    rcases List.mem_append.1 hp' with q | q
    ·exact .inl (List.mem_of_mem_take q)
    ·rcases List.mem_cons.1 q with q | q
     ·exact .inr q
     ·exact .inl (List.mem_of_mem_drop q)
   rcases hcase with q | rfl
   ·exact⟨kp _ _ _ (hin p q).1,fun k e=>by have:=(hin p q).2 k e;omega⟩
   ·exact⟨kp _ _ _ (own_mono hu.1 hlo),fun k e=>by have:=hu.2 k e;omega⟩
  ·have hap:∀ p∈D,Apart p (u,L):=fun p hp1 k e e'=>by
    have h1:=(hin p hp1).2 k e
    have h2:=(hu.1.lt k e').1
    omega
   have hs:(D.take at0++D.drop at0).Pairwise Apart:=by rw [List.take_append_drop];exact hp
   obtain⟨p1,p2,p3⟩:=List.pairwise_append.1 hs
   refine List.pairwise_append.2 ⟨p1,List.pairwise_cons.2 ⟨fun p hp1=>apart_symm (hap p (List.mem_of_mem_drop hp1)),p2⟩,fun p hp1 q hq=>?_⟩
   rcases List.mem_cons.1 hq with rfl | hq
   ·exact hap p (List.mem_of_mem_take hp1)
   ·exact p3 p hp1 q hq
theorem own_take {w:World}{lo g n cap k:Nat}{t:TypeId}{xs:List Value}(h:w.ownsRow lo t 1 (.slice (some ⟨g,0,none⟩) n cap) n xs)(hk:k≤n):w.ownsRow lo t 1 (.slice (some ⟨g,0,none⟩) k cap) k (xs.take k):=by
 obtain⟨hl,h2⟩:=h
 refine⟨by rw [List.length_take];omega,?_⟩
 rcases h2 with ⟨e,_⟩ | ⟨g',cap',cur,e,hb,hg,hn,hm,hc,ht⟩
 ·cases e
 ·injection e with e1 e2 e3
  injection e1 with e1
  injection e1 with e1
  subst e1
  subst e3
  refine .inr ⟨g,cap,cur,rfl,hb,hg,by omega,hm,hc,?_⟩
  rw [←ht,List.take_take]
  congr 1
  omega
theorem grown_skip {a b c:World}{r:Nat}{g:Option Nat}(h:a.grownBy b g)(k:b.grownBy c (some r))(hr:g=some r∨a.heap.size≤r):a.grownBy c g :=
 ⟨k.os.trans h.os,k.tape.trans h.tape,k.output.trans h.output,Nat.le_trans h.size k.size,fun j hj hne=>by
  rw [k.block j (Nat.lt_of_lt_of_le hj h.size) (fun e=>by
   injection e with e
   rcases hr with q | q
   ·exact hne (by rw [q,e])
   ·omega)]
  exact h.block j hj hne⟩
theorem tailA {ops:Array Oper}{rest:List Oper}{o:Oper}{a:Act}{Q:Exit→Act→World→Prop}{W:World}{lo g n cap k cc:Nat}{ad:Addr}{xs:List Value}
  (hrow:W.ownsRow lo 34 1 (.slice (some ⟨g,0,none⟩) n cap) n xs) (hone:∀ x∈xs,x.oneCell'=true) (hk:k≤n) (hn:n≤1048576) (had:ad=⟨g,k,none⟩∨n≤k) (hgd:o.guard=none) (s x:Operand)
  (ho:o.op=.call { callee:=.builtin .append,args:=#[s,x],argTypes:=#[24,24] }) (hs:a.eval s=.slice (some ⟨W.heap.size,0,none⟩) 0 0) (hx:a.eval x=.slice (some ad) (n - k) cc)
  (h:∀ t ct w',w'.ownsRow W.heap.size 34 1 (.slice (some ⟨t,0,none⟩) (n - k) ct) (n - k) (xs.drop k)→W.grownBy w' none→wpList Tryz.prog ops Q rest (a.put o.dst (.slice (some ⟨t,0,none⟩) (n - k) ct)) w') :
  wpList Tryz.prog ops Q (o::rest) a (W.alloc (.cells #[] 34)):=by
 obtain⟨i0,hi,hz0,hz1,hz2⟩:=info_parts css.infoSl
 have h0:(W.alloc (.cells #[] 34)).ownsRow W.heap.size 34 1 (.slice (some ⟨W.heap.size,0,none⟩) 0 0) 0 []:=World.ownsRow_lit W #[] 0 (Nat.le_refl _) (Nat.zero_le _) rfl
 have hl:xs.length=n:=by have:=hrow.1;omega
 refine wpList_append_own _ hgd s x 24 ho W.heap.size 34 i0 (.slice none 0 0) 1 24 Tryz.underlying24 hi hz0 hz1 hz2 rfl (by decide) _ 0 [] hs h0 ad (n - k) cc (xs.drop k) hx (by rw [List.length_drop,hl];omega) ?_ ?_ ?_ ?_ ?_ ?_
 ·intro j u hj
  rcases had with e | e
  ·subst e
   rw [Addr.add_mid]
   have hjl:k+j<n:=by
    have:=(List.getElem?_eq_some_iff.1 hj).1
    rw [List.length_drop,hl] at this
    omega
   rw [(hrow.alloc (.cells #[] 34)).cellAt (k+j) (by omega),←hj,List.getElem?_drop]
  ·have:=(List.getElem?_eq_some_iff.1 hj).1
   rw [List.length_drop,hl] at this
   omega
 ·exact fun u hu=>hone u (List.mem_of_mem_drop hu)
 ·unfold maxLen
  omega
 ·omega
 ·simp
 ·intro v' w' h1 hg hnil
  rw [Nat.zero_add,List.nil_append] at h1
  rcases h1.2 with ⟨e,_⟩ | ⟨t,ct,cur,e,hr⟩
  ·have:=(hnil.1 e).1
   cases this
  ·subst e
   refine h t ct w' h1 ?_
   have g0:=World.grownBy_alloc W (.cells #[] 34) none
   exact grown_skip g0 hg (.inr (Nat.le_refl _))
theorem tailN {ops:Array Oper}{rest:List Oper}{o:Oper}{a:Act}{Q:Exit→Act→World→Prop}{W:World}(hgd:o.guard=none)(s x:Operand)
  (ho:o.op=.call { callee:=.builtin .append,args:=#[s,x],argTypes:=#[24,24] }) (hs:a.eval s=.slice (some ⟨W.heap.size,0,none⟩) 0 0) (hx:a.eval x=.slice none 0 0)
  (h:∀ w',w'.ownsRow W.heap.size 34 1 (.slice (some ⟨W.heap.size,0,none⟩) 0 0) 0 []→W.grownBy w' none→W.heap.size<w'.heap.size→wpList Tryz.prog ops Q rest (a.put o.dst (.slice (some ⟨W.heap.size,0,none⟩) 0 0)) w'):wpList Tryz.prog ops Q (o::rest) a (W.alloc (.cells #[] 34)):=by
 obtain⟨i0,hi,hz0,hz1,hz2⟩:=info_parts css.infoSl
 have h0:(W.alloc (.cells #[] 34)).ownsRow W.heap.size 34 1 (.slice (some ⟨W.heap.size,0,none⟩) 0 0) 0 []:=World.ownsRow_lit W #[] 0 (Nat.le_refl _) (Nat.zero_le _) rfl
 exact wpList_plain hgd fun K hK=>app.wp_none s x 24 ho W.heap.size 34 i0 1 Tryz.underlying24 hi _ 0 [] hs h0 hx (hK _ _ (h _ h0 (World.grownBy_alloc _ _ _) (by simp)))
theorem tailZ {ops:Array Oper}{rest:List Oper}{o:Oper}{a:Act}{Q:Exit→Act→World→Prop}{W:World}{ad:Addr}{cc:Nat}(hgd:o.guard=none)(s x:Operand)
  (ho:o.op=.call { callee:=.builtin .append,args:=#[s,x],argTypes:=#[24,24] }) (hs:a.eval s=.slice (some ⟨W.heap.size,0,none⟩) 0 0) (hx:a.eval x=.slice (some ad) 0 cc)
  (h:∀ t ct w',w'.ownsRow W.heap.size 34 1 (.slice (some ⟨t,0,none⟩) 0 ct) 0 []→W.grownBy w' none→wpList Tryz.prog ops Q rest (a.put o.dst (.slice (some ⟨t,0,none⟩) 0 ct)) w'):wpList Tryz.prog ops Q (o::rest) a (W.alloc (.cells #[] 34)):=by
 obtain⟨i0,hi,hz0,hz1,hz2⟩:=info_parts css.infoSl
 have h0:(W.alloc (.cells #[] 34)).ownsRow W.heap.size 34 1 (.slice (some ⟨W.heap.size,0,none⟩) 0 0) 0 []:=World.ownsRow_lit W #[] 0 (Nat.le_refl _) (Nat.zero_le _) rfl
 refine wpList_append_own _ hgd s x 24 ho W.heap.size 34 i0 (.slice none 0 0) 1 24 Tryz.underlying24 hi hz0 hz1 hz2 rfl (by decide) _ 0 [] hs h0 ad 0 cc [] hx rfl (fun j u hj=>by simp at hj) (fun u hu=>by cases hu) (by unfold maxLen;omega) (by omega) (by simp) ?_
 intro v' w' h1 hg hnil
 rcases h1.2 with ⟨e,_⟩ | ⟨t,ct,cur,e,hr⟩
 ·have:=(hnil.1 e).1
  cases this
 ·subst e
  exact h t ct w' h1 (grown_skip (World.grownBy_alloc W (.cells #[] 34) none) hg (.inr (Nat.le_refl _)))
theorem headA {ops:Array Oper}{rest:List Oper}{o:Oper}{a:Act}{Q:Exit→Act→World→Prop}{W:World}{lo k:Nat}{v u:Value}{ys:List Value}
  (hrow:W.ownsRow lo 34 1 v k ys) (hu:u.oneCell'=true) (hk:k≤1048576) (hlo:lo≤W.heap.size) (hgd:o.guard=none) (s x:Operand)
  (ho:o.op=.call { callee:=.builtin .append,args:=#[s,x],argTypes:=#[24,24] }) (hs:a.eval s=v) (hx:a.eval x=.slice (some ⟨W.heap.size,0,none⟩) 1 1)
  (h:∀ g cap w',w'.ownsRow lo 34 1 (.slice (some ⟨g,0,none⟩) (k+1) cap) (k+1) (ys++[u])→W.grownBy w' v.ownBlock→(v.ownBlock=some g∨W.heap.size≤g)→wpList Tryz.prog ops Q rest (a.put o.dst (.slice (some ⟨g,0,none⟩) (k+1) cap)) w') :
  wpList Tryz.prog ops Q (o::rest) a (W.alloc (.cells #[u] 34)):=by
 obtain⟨i0,hi,hz0,hz1,hz2⟩:=info_parts css.infoSl
 refine wpList_append_lies _ hgd s x 24 ho lo 34 i0 (.slice none 0 0) 1 24 Tryz.underlying24 hi hz0 hz1 hz2 rfl (by decide) v k ys hs (hrow.alloc _) ⟨W.heap.size,0,none⟩ 1 1 [u] hx rfl ?_ ?_ (by decide) ?_ ?_ ?_ (W.heap.size+1) (World.size_alloc ..) ?_
 ·intro j y hj
  match j,hj with
  | 0,hj=>simp at hj;subst hj;simp [Addr.add]
 ·intro y hy
  simp at hy
  subst hy
  exact hu
 ·unfold maxLen;omega
 ·omega
 ·simp;omega
 ·intro g cap w1 h1 hg hat _
  have g0:=World.grownBy_alloc W (.cells #[u] 34) v.ownBlock
  refine h g cap w1 h1 (sl.grown_trans' g0 hg) ?_
  rcases hat with q | q
  ·exact .inl q
  ·exact .inr (by omega)
theorem joinA {ops:Array Oper}{rest:List Oper}{o:Oper}{a:Act}{Q:Exit→Act→World→Prop}{W:World}{lo lo' g k cap t m ct:Nat}{ys zs:List Value}
  (hrow:W.ownsRow lo 34 1 (.slice (some ⟨g,0,none⟩) k cap) k ys) (htail:W.ownsRow lo' 34 1 (.slice (some ⟨t,0,none⟩) m ct) m zs) (hone:∀ x∈zs,x.oneCell'=true) (hk:k+m≤2097152) (hlo:lo≤W.heap.size) (hgd:o.guard=none) (s x:Operand)
  (ho:o.op=.call { callee:=.builtin .append,args:=#[s,x],argTypes:=#[24,24] }) (hs:a.eval s=.slice (some ⟨g,0,none⟩) k cap) (hx:a.eval x=.slice (some ⟨t,0,none⟩) m ct)
  (h:∀ g' cap' w',w'.ownsRow lo 34 1 (.slice (some ⟨g',0,none⟩) (k+m) cap') (k+m) (ys++zs)→W.grownBy w' (some g)→wpList Tryz.prog ops Q rest (a.put o.dst (.slice (some ⟨g',0,none⟩) (k+m) cap')) w') :
  wpList Tryz.prog ops Q (o::rest) a W:=by
 obtain⟨i0,hi,hz0,hz1,hz2⟩:=info_parts css.infoSl
 have hl:zs.length=m:=by have:=htail.1;omega
 refine wpList_append_own _ hgd s x 24 ho lo 34 i0 (.slice none 0 0) 1 24 Tryz.underlying24 hi hz0 hz1 hz2 rfl (by decide) _ k ys hs hrow ⟨t,0,none⟩ m ct zs hx (by rw [hl];omega) ?_ hone ?_ ?_ hlo ?_
 ·intro j u hj
  rw [Addr.add_lit,Nat.zero_add]
  have hjl:j<m:=by
   have:=(List.getElem?_eq_some_iff.1 hj).1
   omega
  rw [htail.cellAt j (by omega)]
  exact hj
 ·unfold maxLen
  omega
 ·omega
 ·intro v' w' h1 hg hnil
  rcases h1.2 with ⟨e,_⟩ | ⟨g',cap',cur,e,hr⟩
  ·have:=(hnil.1 e).1
   cases this
  ·subst e
   exact h g' cap' w' h1 hg
theorem mid_ins {w W w9:World}{c:Nat}{n:Int}{M M':List (List Int)}{Bs:List (Nat × Value × Value)}{a:Option Addr}{cap g cap' m:Nat}{xs:List Value}(hc:w.heap.size≤c)(hg:w.grownBy W none)(hB:∀ b∈Bs,b.1≠c∧Box 26 W b.1 b.2.1 b.2.2)(hb:Box 26 W c (.int .i64 n) (.slice a M.length cap))
  (hw:W.ownsRow w.heap.size 34 1 (.slice a M.length cap) M.length xs) (h9:OwnS w.heap.size w9.heap.size w9 (.slice (some ⟨g,0,none⟩) m cap') M') (hm:m=M'.length) (g1:W.grownBy w9 (Value.slice a M.length cap).ownBlock) :
  (w9.cell? ⟨c,1,none⟩=some (.slice a M.length cap)∧w9.frozen? ⟨c,1,none⟩=false)∧MidF w (w9.setCell ⟨c,1,none⟩ (.slice (some ⟨g,0,none⟩) m cap')) c n M' Bs:=by
 subst hm
 have hb1:=hb.by g1 (box_ne hw ty1 hb)
 have hg1:w.grownBy w9 none:=grown_own hg hw (Nat.le_refl _) g1
 have hB1:∀ b x y,(b,x,y)∈Bs→Box 26 w9 b x y:=by
  intro b x y hb'
  have hbb:=(hB _ hb').2
  exact hbb.by g1 (box_ne hw ty1 hbb)
 refine⟨⟨hb1.c1,hb1.f 1⟩,hc,cf.grown_set hg1 hc,fun b hb'=>⟨(hB b hb').1,?_⟩,some ⟨g,0,none⟩,cap',?_,?_⟩
 ·exact (hB1 b.1 b.2.1 b.2.2 hb').setO (fun e=>(hB b hb').1 e.symm)
 ·exact hb1.set1 (.slice (some ⟨g,0,none⟩) M'.length cap')
 ·rw [cf.size_set]
  exact gr.ownS_set h9 hb1
theorem mid_start {w w2:World}{n:Int}{Bs:List (Nat × Value × Value)}(g:w.grownBy w2 none)(hB:∀ b∈Bs,Box 26 w2 b.1 b.2.1 b.2.2):MidF w (w2.alloc (.cells #[.int .i64 n,.slice none 0 0] 26)) w2.heap.size n [] Bs:=by
 have g1:=World.grownBy_alloc w2 (.cells #[.int .i64 n,.slice none 0 0] 26) none
 refine⟨g.size,grown_trans g g1,fun b hb=>⟨?_,(hB b hb).kept g1⟩,none,0,Box.new 26 w2 (.int .i64 n) (.slice none 0 0),ownS_nil _ _ _⟩
 have:=(hB b hb).lt
 omega
set_option maxRecDepth 10000 in
set_option maxHeartbeats 4000000 in
theorem specCnfSort (v:Value)(n:Int)(LL:List (List Int))(w:World)(hn:tot LL≤1048576)(hv:Sls w v LL) :
  Calls Tryz.prog 38 #[.agg #[.int .i64 n,v]] w fun e w'=>∃ u,e=.returned (.tuple #[.agg #[.int .i64 (srtN n LL),u],.bool (srtB n LL)])∧OwnS w.heap.size w'.heap.size w' u (srtR n LL)∧w.grownBy w' none:=by
 have hl:=Nat.le_trans (css.tot_len LL) hn
 have cc:=ok.specCnfOk v n LL (ini w n v) hn (hv.kept (ini_grown w n v))
 have I0:=hide (ini_grown w n v)
 have I1:=hide (ini_box0 w n v)
 have I2:=hide (ini_box1 w n v)
 unfold ini at cc I0 I1 I2
 cases hb:cnfB n LL
 ·rw [hb] at cc
  have CC:=hide cc
  have E:=hide hb
  clear cc hb hv
  go_enter Tryz.func38,Tryz.ntmps38
  go_wp2_with fail
  refine (unhide CC).mono ?_;rintro e w2 ⟨rfl,g2⟩
  have b2:=(unhide I2).kept g2
  have r0:=b2.c0
  have r1:=b2.c1
  have f0:=b2.f 0
  have f1:=b2.f 1
  have B2:=hide b2
  have G2:=hide (grown_trans (r:=none) (unhide I0) g2)
  clear b2 g2
  go_wp2_with fail
  (try simp only [Exit.inBlock,Exit.then])
  exact ret_no (unhide B2) (unhide G2) (unhide E) rfl (by rfl) (by rfl) (by rfl)
 ·rw [hb] at cc
  have CC:=hide cc
  have SR:=hide (srt_yes hb)
  obtain⟨a,cap,rfl,ha⟩:=hv
  have HA:=hide ha
  clear cc hb ha
  go_enter Tryz.func38,Tryz.ntmps38
  go_wp2_with fail
  refine (unhide CC).mono ?_;rintro e w2 ⟨rfl,g2⟩
  have b1:=(unhide I1).kept g2
  have b2:=(unhide I2).kept g2
  have k0:=b1.c0
  have G2:=hide (grown_trans (r:=none) (unhide I0) g2)
  have ST:=hide (mid_start (n:=n) (Bs:=[(w.heap.size,Value.int .i64 n,Value.slice a LL.length cap),(w.heap.size+1,Value.int .i64 0,Value.slice none 0 0)]) (unhide G2) (by
   intro b hb
   simp only [List.mem_cons,List.not_mem_nil,or_false] at hb
   rcases hb with rfl | rfl
   ·exact b1
   ·exact b2))
  clear b1 b2 g2 CC I0 I1 I2
  go_wp2_with fail
  generalize w2.heap.size=c at *
  go_loopw [5] (fun i wr=>∃ k:Nat,k≤LL.length∧i=.int .i64 k∧Hid (MidF w wr c n (insAll lessL [] (good (LL.take k))) [(w.heap.size,Value.int .i64 n,Value.slice a LL.length cap),(w.heap.size+1,Value.int .i64 0,Value.slice none 0 0)])) (fun i _=>LL.length - (intOf i).toNat)
  case atStart=>exact⟨0,Nat.zero_le _,rfl,ST⟩
  case round =>
   obtain⟨k,hk,rfl,hm⟩:=hrel
   clear ST k0
   have bf:=(unhide hm).box w.heap.size (.int .i64 n) (.slice a LL.length cap) (by simp)
   have z0:=bf.c0
   have z1:=bf.c1
   by_cases hlt:k<LL.length
   ·rcases unhide HA with h | ⟨b,off,rfl,hb,hcb⟩
    ·rw [h] at hlt
     simp at hlt
    ·obtain⟨u,hu,hs⟩:=hcb k hlt
     have hg:=(unhide hm).grown
     have c1:wr.cell? ⟨b,off+k,none⟩=some u:=hg.cell hu (fun e=>by cases e)
     have hi':(k:Int)<(LL.length:Int):=by omega
     have gy:=good_yes (LL:=LL) hlt
     have gn:=good_no (LL:=LL) hlt
     have gl:(insAll lessL [] (good (LL.take k))).length≤k:=by
      have h1:=insAll_len (good (LL.take k)) []
      have h2:=good_len (LL.take k)
      rw [List.length_take] at h2
      simp at h1
      omega
     have hL:=Nat.le_trans (css.tot_in LL k) hn
     generalize LL.getD k []=L at *
     have C:=hide (srt.l01Sort u L wr hL (hs.kept hg (.inl rfl)))
     clear hcb HA hs hu hg bf
     cases ho:okTo (setOf L) 24
     ·have HG:=hide (gn ho)
      rw [ho] at C
      clear gy gn
      go_wp2_with fail
      refine (unhide C).mono ?_;rintro e w3 ⟨u3,rfl,o3,g3⟩
      have M3:=hide ((unhide hm).kept g3)
      clear C o3 g3 hm z0 z1
      go_wp2_with fail
      go_roundw
      case rel=>exact⟨k+1,by omega,by go_num,by rw [unhide HG];exact unhide M3⟩
      case measure=>simp [intOf];omega
     ·have HG:=hide ((congrArg (insAll lessL []) (gy ho)).trans (cnfS_step _ _))
      rw [ho] at C
      have hcl:(srt (setOf L) 48).length≤48:=srt.srt_len _ _
      clear gy gn
      have HML:Hid (∀ x∈insAll lessL [] (good (LL.take k)),x.length≤24):=fun x hx=>cs.good_24 (((cs.insAll_mem _ _).1 hx).resolve_left (by simp))
      generalize srt (setOf L) 48=d at *
      generalize insAll lessL [] (good (LL.take k))=M at *
      go_wp2_with fail
      refine (unhide C).mono ?_;rintro e w3 ⟨u3,rfl,o3,g3⟩
      obtain⟨ya,yc,rfl⟩:∃ xa xc,u3=.slice xa d.length xc:=by
       obtain⟨xa,xc,e,_⟩:=sl.Sl.of_own o3
       exact⟨xa,xc,e⟩
      obtain⟨q0,q1,q2,oa,ocap,q3,q4⟩:=unhide hm
      have Q0:=hide q0
      have Q1:=hide (grown_trans (r:=none) q1 g3)
      have Q2:=hide (fun b hb=>And.intro (q2 b hb).1 ((q2 b hb).2.kept g3))
      have Q3:=hide (q3.kept g3)
      have Q4:=hide (q4.kept g3)
      have U3:=hide (sl.Own.of o3)
      have hmid:w.heap.size≤wr.heap.size:=q1.size
      have HMD:=hide (And.intro q1.size g3.size)
      have hMl:M.length≤1048576:=by omega
      clear C o3 g3 hm z0 z1 q0 q1 q2 q3 q4 c1 hmid
      generalize wr.heap.size=mid at *
      go_wp2_with fail
      obtain⟨xs,hxl,hrow,hone,hel,hins⟩:=outer (unhide Q4)
      have HROW:=hide hrow
      have HONE:=hide hone
      have HEL:=hide hel
      have HINS:=hide hins
      have HXL:=hide hxl
      clear hrow hone hel hins hxl
      have o1:=(unhide Q3).c1
      go_loopw [8] (fun i wq=>∃ j:Nat,j≤at_ lessL M d∧i=.int .i64 j∧Hid (w3.grownBy wq none)) (fun i _=>M.length - (intOf i).toNat)
      case atStart=>exact⟨0,Nat.zero_le _,rfl,grown_refl _⟩
      case round =>
       obtain⟨j,hj,rfl,hgq⟩:=hrel
       have hal:=at_le lessL M d
       have o2:=((unhide Q3).kept (unhide hgq)).c1
       clear o1
       by_cases hjl:j<M.length
       ·have hji:(j:Int)<(M.length:Int):=by omega
        obtain⟨y,hy,hsy⟩:=unhide HEL j hjl
        have hgo:=at_go hj hjl
        rw [show M[j]=M.getD j [] by simp [hjl]] at hgo
        have hdl:d.length≤1048576:=by omega
        have hyl:(M.getD j []).length≤1048576:=Nat.le_trans (unhide HML _ (by rw [show M.getD j []=M[j] by simp [hjl]];exact List.getElem_mem hjl)) (by decide)
        have cl:=le.l02Less y (.slice ya d.length yc) (M.getD j []) d wr hyl hdl (hsy.kept (unhide hgq) (.inl rfl)) ((unhide U3).kept (unhide hgq)).sl
        have cell:∃ g,oa=some ⟨g,0,none⟩∧wr.cell? ⟨g,j,none⟩=some y:=by
         have hr:=unhide HROW
         rcases hr.2 with ⟨e,h0⟩ | ⟨g,cap',cur,e,_⟩
         ·omega
         ·injection e with e1 e2 e3
          subst e1
          refine⟨g,rfl,(unhide hgq).cell ?_ (fun e=>by cases e)⟩
          rw [(unhide HROW).cellAt j (by omega)]
          exact hy
        obtain⟨g,rfl,cy⟩:=cell
        cases hb:lessL (M.getD j []) d
        ·rw [hb] at cl hgo
         have CL:=hide cl
         have hje:j=at_ lessL M d:=by
          have:¬ (j+1≤at_ lessL M d):=fun h=>by have:=hgo.2 h;cases this
          omega
         have cs':=fun (w':World) (gg:wr.grownBy w' none)=>le.l02Same y (.slice ya d.length yc) (M.getD j []) d w' hyl hdl ((hsy.kept (unhide hgq) (.inl rfl)).kept gg (.inl rfl)) (((unhide U3).kept (unhide hgq)).kept gg).sl
         have hget:M[j]?=some (M.getD j []):=by simp [hjl]
         have hI:=show ins lessL M d=if M.getD j []=d then M else M.take j++d::M.drop j by
          unfold cs.ins
          rw [←hje,hget]
          simp
         generalize M.getD j []=z at *
         by_cases hz:z=d
         ·have HI:=hide (show ins lessL M d=M by rw [hI,if_pos hz])
          simp only [decide_eq_true hz] at cs'
          subst hz
          have CS:=hide cs'
          clear cs' cl hgo hb hsy hy hI hget hje
          go_wp2_with fail
          refine (unhide CL).mono ?_;rintro e w5 ⟨rfl,g5⟩
          have G5:=hide (grown_trans (r:=none) (unhide hgq) g5)
          have o5:=((unhide Q3).kept (unhide G5)).c1
          have c5:w5.cell? ⟨g,j,none⟩=some y:=g5.cell cy (fun e=>by cases e)
          have C5:=hide (unhide CS w5 g5)
          clear g5 CL hgq o2 cy CS
          go_wp2_with fail
          refine (unhide C5).mono ?_;rintro e w6 ⟨rfl,g6⟩
          have G6:=hide (grown_trans (r:=none) (unhide G5) g6)
          clear g6 C5 o5 c5
          go_wp2_with fail
          go_roundw
          case rel=>exact⟨k+1,by omega,by go_num,by rw [unhide HG,unhide HI];exact⟨unhide Q0,grown_trans (unhide Q1) (unhide G6),fun b hb=>⟨(unhide Q2 b hb).1,(unhide Q2 b hb).2.kept (unhide G6)⟩,_,ocap,(unhide Q3).kept (unhide G6),((unhide Q4).kept (unhide G6)).sub (Nat.le_refl _) (Nat.le_trans (unhide HMD).2 (unhide G6).size)⟩⟩
          case measure=>simp [intOf];omega
         ·have HI:=hide (show ins lessL M d=M.take j++d::M.drop j by rw [hI,if_neg hz])
          simp only [decide_eq_false hz] at cs'
          have CS:=hide cs'
          have HZ:=hide hz
          clear cs' cl hgo hb hsy hy hI hget hje hz
          go_wp2_with fail
          refine (unhide CL).mono ?_;rintro e w5 ⟨rfl,g5⟩
          have G5:=hide (grown_trans (r:=none) (unhide hgq) g5)
          have o5:=((unhide Q3).kept (unhide G5)).c1
          have c5:w5.cell? ⟨g,j,none⟩=some y:=g5.cell cy (fun e=>by cases e)
          have C5:=hide (unhide CS w5 g5)
          clear g5 CL hgq o2 cy CS
          go_wp2_with fail
          refine (unhide C5).mono ?_;rintro e w6 ⟨rfl,g6⟩
          have G6:=hide (grown_trans (r:=none) (unhide G5) g6)
          clear g6 C5 o5 c5 HZ
          have q0:=unhide Q0
          have q1:=grown_trans (r:=none) (unhide Q1) (unhide G6)
          have q2:=fun b hb=>And.intro (unhide Q2 b hb).1 ((unhide Q2 b hb).2.kept (unhide G6))
          have q3:=(unhide Q3).kept (unhide G6)
          have q4:=(unhide Q4).kept (unhide G6)
          have uu:=(unhide U3).kept (unhide G6)
          have hu1:(Value.slice ya d.length yc).oneCell'=true:=rfl
          have hmm:=unhide HMD
          have hWs:=(unhide G6).size
          clear HROW HONE HEL HINS HXL
          obtain⟨xs,hxl,hrow,hone,hel,hins⟩:=outer q4
          have o4:=(q3.kept (World.grownBy_alloc w6 (.cells #[] 34) none)).c1
          have l1:(0:Int)≤(j:Int):=by omega
          have l2:(j:Int)≤(M.length:Int):=by omega
          have hcap:M.length≤ocap:=by
           rcases hrow.2 with ⟨e,_⟩ | ⟨g',cap',cur,e,_,_,h3,_⟩
           ·cases e
           ·injection e with e1 e2 e3
            omega
          have l3:(M.length:Int)≤(ocap:Int):=by omega
          have l4:(j:Int)≤(ocap:Int):=by omega
          have hgb:g<w6.heap.size:=(hrow.lt g rfl).2
          have hglo:w.heap.size≤g:=(hrow.lt g rfl).1
          have GT:=hide (fun t ct (w':World) (h1:w'.ownsRow w6.heap.size 34 1 (.slice (some ⟨t,0,none⟩) (M.length - j) ct) (M.length - j) (xs.drop j)) (h2:w6.grownBy w' none)=>And.intro h1 h2)
          have HR:=hide hrow
          have HO:=hide hone
          have HI2:=hide hins
          have HQ:=hide (And.intro q0 (And.intro q1 (And.intro q2 q3)))
          have UU:=hide uu
          have HX:=hide hxl
          clear q0 q1 q2 q3 q4 uu hrow hone hins hel hxl GT
          go_upto_region 13 with fail
          go_wp2_with (at_builtin;refine tailA (W:=w6) (k:=j) (unhide HR) (unhide HO) (by omega) (by omega) (.inl rfl) (by rfl) (.tmp 65) (.tmp 69) (by rfl) (by rfl) rfl ?_)
          intro t ct w7 ht7 g7
          have q3':=(unhide HQ).2.2.2.kept g7
          have o7:=q3'.c1
          have HT7:=hide ht7
          have G7:=hide g7
          have htb:w6.heap.size≤t:=(ht7.lt t rfl).1
          have htb2:t<w7.heap.size:=(ht7.lt t rfl).2
          have hr7:=hide (own_take (k:=j) (rws.row_kept (unhide HR) g7) (by omega))
          have hs7:=g7.size
          have lo7:w.heap.size≤w7.heap.size:=by omega
          clear ht7 g7 q3' o4
          go_wp2_with (at_builtin;refine headA (W:=w7) (unhide hr7) (by rfl) (by omega) lo7 rfl _ _ rfl rfl rfl ?_)
          intro g8 cap8 w8 h8 gr8 at8
          have H8:=hide h8
          have ht8:w8.ownsRow w6.heap.size 34 1 (.slice (some ⟨t,0,none⟩) (M.length - j) ct) (M.length - j) (xs.drop j):=(unhide HT7).kept gr8 (.inr (fun e=>by injection e with e;dsimp only at e;omega))
          have HT8:=hide ht8
          have G8:=hide gr8
          have hg8:g8=g∨w7.heap.size≤g8:=at8.imp (fun e=>by injection e with e;exact e.symm) id
          have hs8:=gr8.size
          have lo8:w.heap.size≤w8.heap.size:=by omega
          clear h8 ht8 gr8 at8 hr7
          go_wp2_with (at_builtin;refine joinA (W:=w8) (unhide H8) (unhide HT8) (fun x hx=>unhide HO x (List.mem_of_mem_drop hx)) (by omega) lo8 rfl _ _ rfl rfl rfl ?_)
          intro g9 cap9 w9 h9 gr9
          have e9:j+1+(M.length - j)=M.length+1:=by omega
          have gW:w6.grownBy w9 (some g):=grown_skip (grown_skip (grown_wide (unhide G7)) (unhide G8) (.inl rfl)) gr9 (hg8.imp (fun e=>by rw [e]) (fun h=>by omega))
          rw [e9] at h9
          have s9:=unhide HI2 j _ d w9 _ (css.own_sub (unhide UU) (Nat.le_refl _) hWs) hmm.1 (by omega) h9 gW
          have f9:=mid_ins (unhide HQ).1 (unhide HQ).2.1 (unhide HQ).2.2.1 (unhide HQ).2.2.2 (unhide HR) s9 (by simp;omega) gW
          rw [←e9] at f9
          have F9:=hide f9
          have p1:=f9.1.1
          have p2:=f9.1.2
          clear f9 h9 gr9 s9 gW H8 HT8 G8 e9 o7
          go_wp2_with fail
          go_roundw
          case rel=>exact⟨k+1,by omega,by go_num,by rw [unhide HG,unhide HI];exact (unhide F9).2⟩
          case measure=>simp [intOf];omega
        ·rw [hb] at cl hgo
         have CL:=hide cl
         have hj1:=hgo.1 rfl
         clear cl hgo hb hsy hy
         go_wp2_with fail
         refine (unhide CL).mono ?_;rintro e w5 ⟨rfl,g5⟩
         have G5:=hide (grown_trans (r:=none) (unhide hgq) g5)
         clear g5 CL hgq o2 cy
         go_wp2_with fail
         go_roundw
         case rel=>exact⟨j+1,hj1,by go_num,G5⟩
         case measure=>simp [intOf];omega
       ·have hji:¬ (j:Int)<(M.length:Int):=by omega
        have hje:j=at_ lessL M d:=by omega
        have hI:ins lessL M d=M.take j++d::M.drop j:=by
         unfold cs.ins
         rw [←hje,List.getElem?_eq_none (by omega)]
         simp
        have HI:=hide hI
        clear hI hje
        have hway:(oa=none∧ocap=0∧M=[])∨∃ g,oa=some ⟨g,0,none⟩:=by
         rcases (unhide HROW).2 with ⟨e,h0⟩ | ⟨g,cap',cur,e,_⟩
         ·injection e with e1 e2 e3
          exact .inl ⟨e1,e3,List.eq_nil_of_length_eq_zero h0⟩
         ·injection e with e1 e2 e3
          exact .inr ⟨g,e1⟩
        rcases hway with ⟨rfl,rfl,rfl⟩ | ⟨g,rfl⟩
        ·have ej:j=0:=by
          have:([]:List (List Int)).length=0:=rfl
          omega
         subst ej
         have q0:=unhide Q0
         have q1:=grown_trans (r:=none) (unhide Q1) (unhide hgq)
         have q2:=fun b hb=>And.intro (unhide Q2 b hb).1 ((unhide Q2 b hb).2.kept (unhide hgq))
         have q3:=(unhide Q3).kept (unhide hgq)
         have q4:=(unhide Q4).kept (unhide hgq)
         have uu:=(unhide U3).kept (unhide hgq)
         have hu1:(Value.slice ya d.length yc).oneCell'=true:=rfl
         have hmm:=unhide HMD
         have hWs:=(unhide hgq).size
         clear HROW HONE HEL HINS HXL
         obtain⟨xs,hxl,hrow,hone,hel,hins⟩:=outer q4
         have o4:=(q3.kept (World.grownBy_alloc wr (.cells #[] 34) none)).c1
         have ex:xs=[]:=List.eq_nil_of_length_eq_zero hxl
         subst ex
         have HR:=hide hrow
         have HI2:=hide hins
         have HQ:=hide (And.intro q0 (And.intro q1 (And.intro q2 q3)))
         have UU:=hide uu
         clear q0 q1 q2 q3 q4 uu hrow hone hins hel hxl
         go_upto_region 13 with fail
         go_wp2_with (at_builtin;refine tailN (W:=wr) (by rfl) (.tmp 65) (.tmp 69) (by rfl) (by rfl) (by rfl) ?_)
         intro w7 h7 g7 hs7
         have o7:=((unhide HQ).2.2.2.kept g7).c1
         have H7:=hide h7
         have G7:=hide g7
         have hrn:=hide (World.ownsRow_nil w7 w.heap.size 34 1)
         have lo7:w.heap.size≤w7.heap.size:=by omega
         clear h7 g7 o4
         go_wp2_with (at_builtin;refine headA (W:=w7) (unhide hrn) (by rfl) (by decide) lo7 rfl _ _ rfl rfl rfl ?_)
         intro g8 cap8 w8 h8 gr8 at8
         have H8:=hide h8
         have gr8':w7.grownBy w8 none:=gr8
         have ht8:=rws.row_kept (unhide H7) gr8'
         have HT8:=hide ht8
         have G8:=hide gr8'
         have hg8:w7.heap.size≤g8:=at8.resolve_left (fun e=>by cases e)
         have hs8:=gr8.size
         have lo8:w.heap.size≤w8.heap.size:=by omega
         clear h8 ht8 gr8 gr8' at8
         go_wp2_with (at_builtin;refine joinA (W:=w8) (unhide H8) (unhide HT8) (fun x hx=>by cases hx) (by decide) lo8 rfl _ _ rfl rfl rfl ?_)
         intro g9 cap9 w9 h9 gr9
         have gW:wr.grownBy w9 none:=grown_skip (grown_trans (r:=none) (unhide G7) (unhide G8)) gr9 (.inr (by omega))
         have s9:=unhide HI2 0 _ d w9 _ (css.own_sub (unhide UU) (Nat.le_refl _) hWs) hmm.1 (by omega) h9 gW
         have f9:=mid_ins (M:=[]) (unhide HQ).1 (unhide HQ).2.1 (unhide HQ).2.2.1 (unhide HQ).2.2.2 (unhide HR) s9 rfl gW
         have F9:=hide f9
         have p1:=f9.1.1
         have p2:=f9.1.2
         clear f9 h9 gr9 s9 gW H8 HT8 G8
         go_wp2_with fail
         go_roundw
         case rel=>exact⟨k+1,by omega,by go_num,by rw [unhide HG,unhide HI];exact (unhide F9).2⟩
         case measure=>simp [intOf];omega
        ·by_cases hcj:ocap=j
         ·subst hcj
          have q0:=unhide Q0
          have q1:=grown_trans (r:=none) (unhide Q1) (unhide hgq)
          have q2:=fun b hb=>And.intro (unhide Q2 b hb).1 ((unhide Q2 b hb).2.kept (unhide hgq))
          have q3:=(unhide Q3).kept (unhide hgq)
          have q4:=(unhide Q4).kept (unhide hgq)
          have uu:=(unhide U3).kept (unhide hgq)
          have hu1:(Value.slice ya d.length yc).oneCell'=true:=rfl
          have hmm:=unhide HMD
          have hWs:=(unhide hgq).size
          clear HROW HONE HEL HINS HXL
          obtain⟨xs,hxl,hrow,hone,hel,hins⟩:=outer q4
          have o4:=(q3.kept (World.grownBy_alloc wr (.cells #[] 34) none)).c1
          have l1:(0:Int)≤(ocap:Int):=by omega
          have hcap:M.length≤ocap:=by
           rcases hrow.2 with ⟨e,_⟩ | ⟨g',cap',cur,e,_,_,h3,_⟩
           ·cases e
           ·injection e with e1 e2 e3
            omega
          have l3:(M.length:Int)≤(ocap:Int):=by omega
          have eM:M.length=ocap:=by omega
          have EM:=hide eM
          clear eM
          have hgb:g<wr.heap.size:=(hrow.lt g rfl).2
          have hglo:w.heap.size≤g:=(hrow.lt g rfl).1
          have HR:=hide hrow
          have HO:=hide hone
          have HI2:=hide hins
          have HQ:=hide (And.intro q0 (And.intro q1 (And.intro q2 q3)))
          have UU:=hide uu
          have HX:=hide hxl
          clear q0 q1 q2 q3 q4 uu hrow hone hins hel hxl
          go_upto_region 13 with fail
          go_wp2_with (at_builtin;refine tailZ (W:=wr) (by rfl) (.tmp 65) (.tmp 69) (by rfl) (by rfl) rfl ?_)
          intro t ct w7 ht7 g7
          have q3':=(unhide HQ).2.2.2.kept g7
          have o7:=q3'.c1
          have HT7:=hide ht7
          have G7:=hide g7
          have htb:wr.heap.size≤t:=(ht7.lt t rfl).1
          have htb2:t<w7.heap.size:=(ht7.lt t rfl).2
          have hr7:=hide (own_take (k:=ocap) (rws.row_kept (unhide HR) g7) (by rw [unhide EM];exact Nat.le_refl _))
          have hs7:=g7.size
          have lo7:w.heap.size≤w7.heap.size:=by omega
          clear ht7 g7 q3' o4
          go_wp2_with (at_builtin;refine headA (W:=w7) (unhide hr7) (by rfl) (by have:=unhide EM;omega) lo7 rfl _ _ rfl rfl rfl ?_)
          intro g8 cap8 w8 h8 gr8 at8
          have H8:=hide h8
          have ht8:w8.ownsRow wr.heap.size 34 1 (.slice (some ⟨t,0,none⟩) 0 ct) 0 []:=(unhide HT7).kept gr8 (.inr (fun e=>by injection e with e;dsimp only at e;omega))
          have HT8:=hide ht8
          have G8:=hide gr8
          have hg8:g8=g∨w7.heap.size≤g8:=at8.imp (fun e=>by injection e with e;exact e.symm) id
          have hs8:=gr8.size
          have lo8:w.heap.size≤w8.heap.size:=by omega
          clear h8 ht8 gr8 at8 hr7
          go_wp2_with (at_builtin;refine joinA (W:=w8) (unhide H8) (unhide HT8) (fun x hx=>by cases hx) (by have:=unhide EM;omega) lo8 rfl _ _ rfl rfl rfl ?_)
          intro g9 cap9 w9 h9 gr9
          have gW:wr.grownBy w9 (some g):=grown_skip (grown_skip (grown_wide (unhide G7)) (unhide G8) (.inl rfl)) gr9 (hg8.imp (fun e=>by rw [e]) (fun h=>by omega))
          have h9':w9.ownsRow w.heap.size 34 1 (.slice (some ⟨g9,0,none⟩) (ocap+1) cap9) (M.length+1) (xs.take ocap++(Value.slice ya d.length yc)::xs.drop ocap):=by
           rw [unhide EM,List.drop_eq_nil_of_le (by rw [unhide HX,unhide EM];exact Nat.le_refl _)]
           exact h9
          have s9:=unhide HI2 ocap _ d w9 _ (css.own_sub (unhide UU) (Nat.le_refl _) hWs) hmm.1 (by omega) h9' gW
          have f9:=mid_ins (unhide HQ).1 (unhide HQ).2.1 (unhide HQ).2.2.1 (unhide HQ).2.2.2 (unhide HR) s9 (by have:=unhide EM;simp;omega) gW
          have F9:=hide f9
          have p1:=f9.1.1
          have p2:=f9.1.2
          clear f9 h9 h9' gr9 s9 gW H8 HT8 G8 o7
          go_wp2_with fail
          go_roundw
          case rel=>exact⟨k+1,by omega,by go_num,by rw [unhide HG,unhide HI];exact (unhide F9).2⟩
          case measure=>simp [intOf];omega
         ·have q0:=unhide Q0
          have q1:=grown_trans (r:=none) (unhide Q1) (unhide hgq)
          have q2:=fun b hb=>And.intro (unhide Q2 b hb).1 ((unhide Q2 b hb).2.kept (unhide hgq))
          have q3:=(unhide Q3).kept (unhide hgq)
          have q4:=(unhide Q4).kept (unhide hgq)
          have uu:=(unhide U3).kept (unhide hgq)
          have hu1:(Value.slice ya d.length yc).oneCell'=true:=rfl
          have hmm:=unhide HMD
          have hWs:=(unhide hgq).size
          clear HROW HONE HEL HINS HXL
          obtain⟨xs,hxl,hrow,hone,hel,hins⟩:=outer q4
          have o4:=(q3.kept (World.grownBy_alloc wr (.cells #[] 34) none)).c1
          have l1:(0:Int)≤(j:Int):=by omega
          have l2:(j:Int)≤(M.length:Int):=by omega
          have hcap:M.length≤ocap:=by
           rcases hrow.2 with ⟨e,_⟩ | ⟨g',cap',cur,e,_,_,h3,_⟩
           ·cases e
           ·injection e with e1 e2 e3
            omega
          have l3:(M.length:Int)≤(ocap:Int):=by omega
          have l4:(j:Int)≤(ocap:Int):=by omega
          have hgb:g<wr.heap.size:=(hrow.lt g rfl).2
          have hglo:w.heap.size≤g:=(hrow.lt g rfl).1
          have GT:=hide (fun t ct (w':World) (h1:w'.ownsRow wr.heap.size 34 1 (.slice (some ⟨t,0,none⟩) (M.length - j) ct) (M.length - j) (xs.drop j)) (h2:wr.grownBy w' none)=>And.intro h1 h2)
          have HR:=hide hrow
          have HO:=hide hone
          have HI2:=hide hins
          have HQ:=hide (And.intro q0 (And.intro q1 (And.intro q2 q3)))
          have UU:=hide uu
          have HX:=hide hxl
          clear q0 q1 q2 q3 q4 uu hrow hone hins hel hxl GT
          go_upto_region 13 with fail
          go_wp2_with (at_builtin;refine tailA (W:=wr) (k:=j) (unhide HR) (unhide HO) (by omega) (by omega) (.inl rfl) (by rfl) (.tmp 65) (.tmp 69) (by rfl) (by rfl) rfl ?_)
          intro t ct w7 ht7 g7
          have q3':=(unhide HQ).2.2.2.kept g7
          have o7:=q3'.c1
          have HT7:=hide ht7
          have G7:=hide g7
          have htb:wr.heap.size≤t:=(ht7.lt t rfl).1
          have htb2:t<w7.heap.size:=(ht7.lt t rfl).2
          have hr7:=hide (own_take (k:=j) (rws.row_kept (unhide HR) g7) (by omega))
          have hs7:=g7.size
          have lo7:w.heap.size≤w7.heap.size:=by omega
          clear ht7 g7 q3' o4
          go_wp2_with (at_builtin;refine headA (W:=w7) (unhide hr7) (by rfl) (by omega) lo7 rfl _ _ rfl rfl rfl ?_)
          intro g8 cap8 w8 h8 gr8 at8
          have H8:=hide h8
          have ht8:w8.ownsRow wr.heap.size 34 1 (.slice (some ⟨t,0,none⟩) (M.length - j) ct) (M.length - j) (xs.drop j):=(unhide HT7).kept gr8 (.inr (fun e=>by injection e with e;dsimp only at e;omega))
          have HT8:=hide ht8
          have G8:=hide gr8
          have hg8:g8=g∨w7.heap.size≤g8:=at8.imp (fun e=>by injection e with e;exact e.symm) id
          have hs8:=gr8.size
          have lo8:w.heap.size≤w8.heap.size:=by omega
          clear h8 ht8 gr8 at8 hr7
          go_wp2_with (at_builtin;refine joinA (W:=w8) (unhide H8) (unhide HT8) (fun x hx=>unhide HO x (List.mem_of_mem_drop hx)) (by omega) lo8 rfl _ _ rfl rfl rfl ?_)
          intro g9 cap9 w9 h9 gr9
          have e9:j+1+(M.length - j)=M.length+1:=by omega
          have gW:wr.grownBy w9 (some g):=grown_skip (grown_skip (grown_wide (unhide G7)) (unhide G8) (.inl rfl)) gr9 (hg8.imp (fun e=>by rw [e]) (fun h=>by omega))
          rw [e9] at h9
          have s9:=unhide HI2 j _ d w9 _ (css.own_sub (unhide UU) (Nat.le_refl _) hWs) hmm.1 (by omega) h9 gW
          have f9:=mid_ins (unhide HQ).1 (unhide HQ).2.1 (unhide HQ).2.2.1 (unhide HQ).2.2.2 (unhide HR) s9 (by simp;omega) gW
          rw [←e9] at f9
          have F9:=hide f9
          have p1:=f9.1.1
          have p2:=f9.1.2
          clear f9 h9 gr9 s9 gW H8 HT8 G8 e9 o7
          go_wp2_with fail
          go_roundw
          case rel=>exact⟨k+1,by omega,by go_num,by rw [unhide HG,unhide HI];exact (unhide F9).2⟩
          case measure=>simp [intOf];omega
   ·have hi':¬ (k:Int)<(LL.length:Int):=by omega
    have e:LL.take k=LL:=List.take_of_length_le (by omega)
    rw [e] at hm
    have br:=(unhide hm).box (w.heap.size+1) (.int .i64 0) (.slice none 0 0) (by simp)
    have hX:insAll lessL [] (good LL)=cnfS LL:=rfl
    rw [hX] at hm
    generalize cnfS LL=X at *
    obtain⟨q0,q1,q2,oa,ocap,q3,q4⟩:=unhide hm
    have r0:=br.c0
    have r1:=br.c1
    have rf0:=br.f 0
    have rf1:=br.f 1
    have o0:=q3.c0
    have o1:=q3.c1
    have BR:=hide br
    have Q1:=hide q1
    have Q4:=hide q4
    clear HA hm e q0 q1 q2 q3 q4 br bf hX
    go_wp2
    (try simp only [Exit.inBlock,Exit.then])
    refine bodyPost_ret (cf.ret_box2 rfl rfl (((unhide BR).set0 (.int .i64 n)).set1 (.slice oa X.length ocap))) rfl ⟨.slice oa X.length ocap,?_,?_,?_⟩
    ·rw [(unhide SR).1,(unhide SR).2.2]
     rfl
    ·rw [(unhide SR).2.1,cf.size_set,cf.size_set]
     exact gr.ownS_set (gr.ownS_set (unhide Q4) (unhide BR)) ((unhide BR).set0 (.int .i64 n))
    ·exact cf.grown_set (cf.grown_set (unhide Q1) (by omega)) (by omega)
end Go.Proofs.YtnlllcgcaddhmaaGreatDoor.cso
namespace Go.Proofs.YtnlllcgcaddhmaaGreatDoor.cso
open css (Sls OwnS tot)
open ok (cnfB)
open cs (cnfS cnfS_len cnfS_mem good_24)
open srt (Tab)
set_option linter.unusedVariables false
theorem sum_le (M:List (List Int))(h:∀ L∈M,L.length≤24):(M.map List.length).sum≤M.length*24:=by
 induction M with
 | nil=>exact Nat.zero_le _
 | cons L M ih =>
  have a:=h L (by simp)
  have b:=ih (fun x hx=>h x (by simp [hx]))
  rw [List.map_cons,List.sum_cons,List.length_cons]
  omega
theorem srt_tot (n:Int)(LL:List (List Int)):tot (srtR n LL)≤3000:=by
 unfold srtR
 split
 ·rename_i h
  have hl:=(fm.cnf_facts h).2.2.1
  have a:=cnfS_len LL
  have b:=sum_le (cnfS LL) (fun L hL=>good_24 (cnfS_mem.1 hL))
  unfold css.tot
  omega
 ·exact Nat.zero_le _
end Go.Proofs.YtnlllcgcaddhmaaGreatDoor.cso
