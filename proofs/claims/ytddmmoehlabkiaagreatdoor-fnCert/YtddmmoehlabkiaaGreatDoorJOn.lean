/- Slices of slices of integers in memory, as the walks here speak of them, and what the small helpers on them (a size, a copy, an equality, marks) do; no condition but that the lists together have at most 2^20 elements. -/
import Derived.Laws.Rows
import Derived.Laws.ResultCell
import Derived.Deep.AppendLies
import Derived.Deep.RegionLaw
import Derived.Deep.DrawnRows
import Derived.Deep.DeepCutAuto
import Derived.Laws.MakeOwn
import Derived.Test.YtddmmoehlabkiaaGreatDoorJOc
import Derived.Laws.AppendOwnNone
import Derived.Deep.RegionHeld3
namespace Go.Proofs.YtddmmoehlabkiaaGreatDoor
set_option linter.unusedVariables false
open Go.ChangeShapes Go.WideShapes Go.ChangeAt Go.RowKit
open sl (Sl Own ints ret_bool grown_trans)
open lits (varI)
open sl (qH qU qT)
set_option maxHeartbeats 800000
namespace css
def Sls (w:World)(v:Value)(LL:List (List Int)):Prop :=
 ∃ a cap,v=.slice a LL.length cap/\(LL=[]∨∃ b off,a=some ⟨b,off,none⟩/\b<w.heap.size/\∀ i,i<LL.length->∃ u,w.cell? ⟨b,off+i,none⟩=some u/\Sl w u (LL.getD i []))
theorem Sls.kept {w w':World}{v:Value}{LL:List (List Int)}(h:Sls w v LL)(g:w.grownBy w' none):Sls w' v LL:=by
 obtain⟨a,cap,rfl,h⟩:=h;refine⟨a,cap,rfl,?_⟩;rcases h with h | ⟨b,off,rfl,hb,hc⟩
 ·exact .inl h
 ·refine .inr ⟨b,off,rfl,Nat.lt_of_lt_of_le hb g.size,fun i hi=>?_⟩;obtain⟨u,hu,hs⟩:=hc i hi;exact⟨u,g.cell hu nofun,hs.kept g (.inl rfl)⟩
def Apart (a b:Value × List Int):Prop:=∀ g,a.1.ownBlock=some g->b.1.ownBlock≠some g
def OwnS (lo hi:Nat)(w:World)(v:Value)(LL:List (List Int)):Prop :=
 ∃ D:List (Value × List Int),D.map (·.2)=LL/\w.ownsRow lo 37 1 v D.length (D.map (·.1))/\(∀ k,v.ownBlock=some k->k<hi)/\(∀ p∈D,Own lo hi w p.1 p.2)/\D.Pairwise Apart
structure Outs (lo hi:Nat) (w w':World):Prop where
 os:w'.os=w.os
 tape:w'.tape=w.tape
 output:w'.output=w.output
 size:w.heap.size<=w'.heap.size
 block:∀ k,k<w.heap.size->(k<lo∨hi<=k)->w'.heap[k]?=w.heap[k]?
theorem own_mono {w:World}{base base':Nat}{e:TypeId}{size:Nat}{v:Value}{n:Nat}{xs:List Value}(h:w.ownsRow base e size v n xs)(hb:base'<=base):w.ownsRow base' e size v n xs:=by
 obtain⟨h1,h2⟩:=h;refine⟨h1,?_⟩;rcases h2 with h2 | ⟨g,cap,cur,hv,hg,r⟩
 ·exact .inl h2
 ·exact .inr ⟨g,cap,cur,hv,Nat.le_trans hb hg,r⟩
theorem own_kind {w:World}{B:Nat}{e:TypeId}{size:Nat}{v:Value}{n:Nat}{xs:List Value}(h:w.ownsRow B e size v n xs):∀ g,v.ownBlock=some g->∃ c fz,w.heap[g]?=some (.cells c e fz):=by
 intro g e';obtain⟨_,h2⟩:=h;rcases h2 with ⟨rfl,_⟩ | ⟨g',cap,cur,rfl,hg,hh,_⟩
 ·cases e'
 ·cases e'
  exact⟨_,_,hh⟩
theorem types_ne:(37:Nat)≠3:=by decide
theorem own_ne {w:World}{lo lo' n n':Nat}{v v':Value}{xs xs':List Value}(h:w.ownsRow lo 37 1 v n xs)(h':w.ownsRow lo' 3 1 v' n' xs'):∀ g,v'.ownBlock=some g->v.ownBlock≠some g:=by
 intro g e e';obtain⟨c,fz,hc⟩:=own_kind h g e';obtain⟨c',fz',hc'⟩:=own_kind h' g e;rw [hc] at hc';simp only [Option.some.injEq,Obj.cells.injEq] at hc';exact types_ne hc'.2.1
theorem own_ne' {w:World}{lo lo' n n':Nat}{v v':Value}{xs xs':List Value}(h:w.ownsRow lo 37 1 v n xs)(h':w.ownsRow lo' 3 1 v' n' xs'):v'.ownBlock=none∨v'.ownBlock≠v.ownBlock:=by
 cases e:v'.ownBlock with
 | none=>exact .inl rfl
 | some g=>exact .inr (fun e'=>own_ne h h' g e e'.symm)
theorem own_sub {lo lo' hi hi':Nat}{w:World}{v:Value}{L:List Int}(h:Own lo hi w v L)(a:lo'<=lo)(b:hi<=hi'):Own lo' hi' w v L :=
 ⟨own_mono h.1 a,fun k e=>Nat.lt_of_lt_of_le (h.2 k e) b⟩
theorem OwnS.sub {lo lo' hi hi':Nat}{w:World}{v:Value}{LL:List (List Int)}(h:OwnS lo hi w v LL)(a:lo'<=lo)(b:hi<=hi'):OwnS lo' hi' w v LL:=by
 obtain⟨D,e,ho,hb,hi,hp⟩:=h;exact⟨D,e,own_mono ho a,fun k e=>Nat.lt_of_lt_of_le (hb k e) b,fun p hp=>own_sub (hi p hp) a b,hp⟩
theorem OwnS.kept {lo hi:Nat}{w w':World}{v:Value}{LL:List (List Int)}(h:OwnS lo hi w v LL)(g:w.grownBy w' none):OwnS lo hi w' v LL:=by
 obtain⟨D,e,ho,hb,hi,hp⟩:=h;refine⟨D,e,ho.kept g ?_,hb,fun p hp=>(hi p hp).kept g,hp⟩;cases v.ownBlock with
 | none=>exact .inl rfl
 | some k=>exact .inr nofun
theorem row_outs {lo hi lo' hi' n:Nat}{t:TypeId}{w w':World}{v:Value}{xs:List Value}(h:w.ownsRow lo t 1 v n xs)(hb:∀ k,v.ownBlock=some k->k<hi)(g:Outs lo' hi' w w')(d:hi<=lo'∨hi'<=lo):w'.ownsRow lo t 1 v n xs:=by
 have h':=h;obtain⟨h1,h2⟩:=h;refine⟨h1,?_⟩;rcases h2 with h2 | ⟨b,cap,cur,rfl,hg,hh,r⟩
 ·exact .inl h2
 ·refine .inr ⟨b,cap,cur,rfl,hg,?_,r⟩;have l1:=h'.lt b rfl;have l2:=hb b rfl;rw [g.block b l1.2 (by omega)];exact hh
theorem own_outs {lo hi lo' hi':Nat}{w w':World}{v:Value}{L:List Int}(h:Own lo hi w v L)(g:Outs lo' hi' w w')(d:hi<=lo'∨hi'<=lo):Own lo hi w' v L :=
 ⟨row_outs h.1 h.2 g d,h.2⟩
theorem OwnS.outs {lo hi lo' hi':Nat}{w w':World}{v:Value}{LL:List (List Int)}(h:OwnS lo hi w v LL)(g:Outs lo' hi' w w')(d:hi<=lo'∨hi'<=lo):OwnS lo hi w' v LL:=by
 obtain⟨D,e,ho,hb,hi,hp⟩:=h;exact⟨D,e,row_outs ho hb g d,hb,fun p hp=>own_outs (hi p hp) g d,hp⟩
theorem outs_by {lo hi:Nat}{w w':World}{r:Option Nat}(g:w.grownBy w' r)(h:∀ k,r=some k->lo<=k/\k<hi):Outs lo hi w w' :=
 ⟨g.os,g.tape,g.output,g.size,fun k hk d=>g.block k hk (fun e=>by have:=h k e.symm;omega)⟩
theorem map2_getD {D:List (Value × List Int)}{i:Nat}(h:i<D.length):(D.map (·.2)).getD i []=D[i].2:=by simp [h]
theorem OwnS.sls {lo hi:Nat}{w:World}{v:Value}{LL:List (List Int)}(h:OwnS lo hi w v LL):Sls w v LL:=by
 obtain⟨D,rfl,ho,hb,hi,hp⟩:=h;have ho':=ho;obtain⟨_,h2⟩:=ho;rcases h2 with ⟨rfl,h0⟩ | ⟨g,cap,cur,rfl,hg,hh,hn,hm,hs,ht⟩
 ·have:D=[]:=List.eq_nil_of_length_eq_zero h0;subst this;exact⟨none,0,rfl,.inl rfl⟩
 ·refine⟨some ⟨g,0,none⟩,cap,by rw [List.length_map],.inr ⟨g,0,rfl,(Array.getElem?_eq_some_iff.1 hh).1,fun i hi'=>?_⟩⟩;rw [List.length_map] at hi';refine⟨D[i].1,?_,?_⟩
  ·rw [Nat.zero_add,ho'.cellAt i (by omega)];simp [hi']
  ·rw [map2_getD hi'];exact (hi _ (List.getElem_mem hi')).sl
theorem OwnS.len {lo hi:Nat}{w:World}{v:Value}{LL:List (List Int)}(h:OwnS lo hi w v LL):∃ a cap,v=.slice a LL.length cap:=by
 obtain⟨a,cap,e,_⟩:=h.sls;exact⟨a,cap,e⟩
theorem infoSl:(Tryz.prog.info? 37).map (fun i=>(i.zero,i.size,i.bytes))=some (some (.slice none 0 0),1,24):=by kernel_rfl
def Mid (w wr:World)(n:Nat)(LL:List (List Int)):Prop :=
 ∃ D:List (Value × List Int),D.map (·.2)=LL/\wr.ownsRow w.heap.size 37 1 (.slice (some ⟨w.heap.size,0,none⟩) n n) n (D.map (·.1)++List.replicate (n - D.length) (.slice none 0 0))/\(∀ p∈D,Own w.heap.size wr.heap.size wr p.1 p.2)/\D.Pairwise Apart/\w.grownBy wr none
theorem Mid.start {w w1:World}{n:Nat}(ho:w1.ownsRow w.heap.size 37 1 (.slice (some ⟨w.heap.size,0,none⟩) n n) n (madeCells #[Value.slice none 0 0] n).toList)(g:w.grownBy w1 none):Mid w w1 n []:=by
 refine⟨[],rfl,?_,(fun p hp=>by cases hp),.nil,g⟩;have e:(madeCells #[Value.slice none 0 0] n).toList=List.replicate n (.slice none 0 0):=by rw [toList_madeCells_one]
 rw [e] at ho
 simpa using ho
theorem Mid.grown {w wr:World}{n:Nat}{LL:List (List Int)}(h:Mid w wr n LL):w.grownBy wr none:=by
 obtain⟨D,_,_,_,_,g⟩:=h;exact g
theorem Mid.cell {w wr w1:World}{n:Nat}{LL:List (List Int)}(h:Mid w wr n LL)(hk:LL.length<n)(g:wr.grownBy w1 none) :
  (∃ x,w1.cell? ⟨w.heap.size,LL.length,none⟩=some x)/\w1.frozen? ⟨w.heap.size,LL.length,none⟩=false:=by
 obtain⟨D,rfl,ho,hi,hp,hg⟩:=h;have ho1:=ho.kept g (.inr nofun);refine⟨?_,ho1.frozenAt _⟩;rw [List.length_map] at *;rw [ho1.cellAt _ (by omega)];exact⟨_,List.getElem?_eq_getElem (by simp;omega)⟩
theorem Mid.step {w wr w1:World}{n:Nat}{LL:List (List Int)}{u:Value}{L:List Int}(h:Mid w wr n LL)(hk:LL.length<n)(g:wr.grownBy w1 none)(hu:w1.ownsRow wr.heap.size 3 1 u L.length (ints L)) :
  Mid w (w1.setCell ⟨w.heap.size,LL.length,none⟩ u) n (LL++[L]):=by
 obtain⟨D,rfl,ho,hi,hp,hg⟩:=h;rw [List.length_map] at *;have ho1:=ho.kept g (.inr nofun);have st:=sl.grown_setCell w1 w.heap.size D.length u;have hsz:=g.size;have hlt:=(ho.lt w.heap.size rfl).2;refine⟨D++[(u,L)],by simp,?_,?_,?_,?_⟩
 ·have e:(D++[(u,L)]).map (fun p:Value × List Int=>p.1)++List.replicate (n - (D++[(u,L)]).length) (Value.slice none 0 0)=(D.map (fun p:Value × List Int=>p.1)++List.replicate (n - D.length) (Value.slice none 0 0)).set D.length u:=by
   have e1:n - D.length=(n - (D.length+1))+1:=by omega
   rw [e1,List.replicate_succ,List.set_append_right _ _ (by rw [List.length_map];exact Nat.le_refl _)];simp
  rw [e];exact (ho1.stored D.length u).1
 ·intro p hp';rw [List.mem_append,List.mem_singleton] at hp';have sz:(w1.setCell ⟨w.heap.size,D.length,none⟩ u).heap.size=w1.heap.size:=by simp [World.setCell]
  rw [sz];rcases hp' with hp' | rfl
  ·have k:=(hi p hp').kept g;refine⟨k.1.kept st ?_,fun k' e=>Nat.lt_of_lt_of_le ((hi p hp').2 k' e) hsz⟩;have:=own_ne' ho1 k.1;exact this
  ·refine⟨(own_mono hu (by omega)).kept st ?_,fun k e=>(hu.lt k e).2⟩;cases e:u.ownBlock with
   | none=>exact .inl rfl
   | some k=>exact .inr (fun e'=>by cases e';have:=(hu.lt _ e).1;omega)
 ·rw [List.pairwise_append];refine⟨hp,List.pairwise_singleton _ _,fun a ha b hb=>?_⟩;rw [List.mem_singleton] at hb;subst hb;intro k e e';have h1:=(hi a ha).2 k e;have h2:=(hu.lt k e').1;omega
 ·exact⟨st.os.trans (g.os.trans hg.os),st.tape.trans (g.tape.trans hg.tape),st.output.trans (g.output.trans hg.output),Nat.le_trans hg.size (Nat.le_trans hsz st.size),fun k hk _=>by
   rw [st.block k (by have:=hg.size;omega) (by intro e;cases e;omega),g.block k (by have:=hg.size;omega) nofun,hg.block k hk nofun]⟩
theorem Mid.done {w wr:World}{n:Nat}{LL:List (List Int)}(h:Mid w wr n LL)(hn:LL.length=n):OwnS w.heap.size wr.heap.size wr (.slice (some ⟨w.heap.size,0,none⟩) n n) LL/\w.grownBy wr none:=by
 obtain⟨D,rfl,ho,hi,hp,hg⟩:=h;rw [List.length_map] at hn;subst hn;refine⟨⟨D,rfl,by simpa using ho,fun k e=>?_,hi,hp⟩,hg⟩;exact (ho.lt k e).2
theorem take_snoc (LL:List (List Int))(k:Nat)(h:k<LL.length):LL.take (k+1)=LL.take k++[LL.getD k []]:=by
 rw [List.take_succ_eq_append_getElem h];simp [h]
def tot (LL:List (List Int)):Nat:=LL.length+(LL.map List.length).sum
theorem tot_len (LL:List (List Int)):LL.length<=tot LL:=Nat.le_add_right _ _
theorem sum_in (l:List (List Int))(i:Nat):(l.getD i []).length<=(l.map List.length).sum:=by
 induction l generalizing i with
 | nil=>simp
 | cons x l ih =>
  cases i with
  | zero=>simp
  | succ i =>
   have:=ih i;simp at *;omega
theorem tot_in (LL:List (List Int))(i:Nat):(LL.getD i []).length<=tot LL:=Nat.le_trans (sum_in LL i) (Nat.le_add_left _ _)
def sumLen (LL:List (List Int)):Nat:=(LL.map List.length).sum
end css
namespace cf
open css (OwnS)
def Box (t:TypeId)(w:World)(c:Nat)(x y:Value):Prop:=w.heap[c]?=some (.cells #[x,y] t (0,0))
theorem Box.c0 {t:TypeId}{w:World}{c:Nat}{x y:Value}(h:Box t w c x y):w.cell? ⟨c,0,none⟩=some x:=by
 unfold Box at h;simp [World.cell?,h]
theorem Box.c1 {t:TypeId}{w:World}{c:Nat}{x y:Value}(h:Box t w c x y):w.cell? ⟨c,1,none⟩=some y:=by
 unfold Box at h;simp [World.cell?,h]
theorem Box.f {t:TypeId}{w:World}{c:Nat}{x y:Value}(h:Box t w c x y)(i:Nat):w.frozen? ⟨c,i,none⟩=false:=by
 unfold Box at h;simp [World.frozen?,h]
theorem Box.lt {t:TypeId}{w:World}{c:Nat}{x y:Value}(h:Box t w c x y):c<w.heap.size:=(Array.getElem?_eq_some_iff.1 h).1
theorem Box.by {t:TypeId}{w w':World}{c:Nat}{x y:Value}{r:Option Nat}(h:Box t w c x y)(g:w.grownBy w' r)(hr:r≠some c):Box t w' c x y:=by
 unfold Box;rw [g.block c h.lt (fun e=>hr e.symm)];exact h
theorem Box.kept {t:TypeId}{w w':World}{c:Nat}{x y:Value}(h:Box t w c x y)(g:w.grownBy w' none):Box t w' c x y:=h.by g nofun
theorem Box.new (t:TypeId)(w:World)(x y:Value):Box t (w.alloc (.cells #[x,y] t)) w.heap.size x y:=by
 show (w.heap.push _)[w.heap.size]?=_;simp
theorem Box.set1 {t:TypeId}{w:World}{c:Nat}{x y:Value}(h:Box t w c x y)(u:Value):Box t (w.setCell ⟨c,1,none⟩ u) c x u:=by
 unfold Box at *;simp [World.setCell,Array.getElem?_modify,h]
theorem Box.set0 {t:TypeId}{w:World}{c:Nat}{x y:Value}(h:Box t w c x y)(u:Value):Box t (w.setCell ⟨c,0,none⟩ u) c u y:=by
 unfold Box at *;simp [World.setCell,Array.getElem?_modify,h]
theorem sizeCnf:(Tryz.prog.info? 26).map (·.size)=some 2:=by kernel_rfl
theorem ret_box {fn:Func}{p:Tmp}{tmps:Array Value}{w:World}{c:Nat}{x y:Value}(h:fn.results=#[.cell p 26])(hp:tmps.getD p undef=.pointer (some ⟨c,0,none⟩))(hb:Box 26 w c x y) :
  (results fn tmps).run Tryz.prog w=.ok (.agg #[x,y]) w :=
 results_cell_row h tmps w c 26 #[x,y] (0,0) _ hp hb Tryz.underlying26 rfl sizeCnf
theorem ret_box2 {fn:Func}{p u:Tmp}{tmps:Array Value}{w:World}{c:Nat}{x y:Value}(h:fn.results=#[.cell p 26,.tmp u])(hp:tmps.getD p undef=.pointer (some ⟨c,0,none⟩))(hb:Box 26 w c x y) :
  (results fn tmps).run Tryz.prog w=.ok (.tuple #[.agg #[x,y],tmps.getD u undef]) w:=by
 rw [results_cell_tmp h,hp];simp only [asAddr,Sem.run_pure,Result.andThen_ok];rw [run_loadVar_row w c 26 26 #[x,y] (0,0) _ hb Tryz.underlying26 rfl sizeCnf];rfl
theorem size_set (w:World)(a:Addr)(u:Value):(w.setCell a u).heap.size=w.heap.size:=by simp [World.setCell]
theorem grown_set {w w1:World}{c i:Nat}{u:Value}(g:w.grownBy w1 none)(h:w.heap.size<=c):w.grownBy (w1.setCell ⟨c,i,none⟩ u) none :=
 ⟨g.os,g.tape,g.output,by rw [size_set];exact g.size,fun k hk _=>(Below.heap_setCell _ _ _ _ (by show k≠c;omega)).trans (g.block k hk nofun)⟩
theorem ownS_set {lo hi:Nat}{w:World}{v:Value}{LL:List (List Int)}{c i:Nat}{u:Value}(h:OwnS lo hi w v LL)(hc:c<lo∨hi<=c):OwnS lo hi (w.setCell ⟨c,i,none⟩ u) v LL :=
 h.outs (css.outs_by (lo:=c) (hi:=c+1) (sl.grown_setCell w c i u) (fun k e=>by cases e;omega)) (by omega)
theorem Box.setO {t:TypeId}{w:World}{c d i:Nat}{x y u:Value}(h:Box t w c x y)(hd:d≠c):Box t (w.setCell ⟨d,i,none⟩ u) c x y :=
 h.by (sl.grown_setCell w d i u) (fun e=>hd (by cases e;rfl))
theorem grown_drew (w:World)(r:Option Nat):w.grownBy w.drew r:=⟨rfl,rfl,rfl,Nat.le_refl _,fun _ _ _=>rfl⟩
end cf
namespace ok
open lits (okB)
open sl (grown_refl grown_drewN)
open css (Sls tot)
def litIn (n x:Int):Bool:=okB x && decide (varI x<=n)
def clB (n:Int)(L:List Int):Bool:=L.all (litIn n) && decide (L.length<=48)
def cnfB (n:Int)(LL:List (List Int)):Bool:=decide (0<=n/\n<=24) && decide (LL.length<=120) && LL.all (clB n)
theorem all_hit {α:Type}(f:α->Bool)(L:List α)(k:Nat)(d:α)(h:k<L.length)(hx:f (L.getD k d)=false):L.all f=false:=by
 rw [List.all_eq_false];refine⟨L[k],List.getElem_mem h,?_⟩;rw [show L.getD k d=L[k] by simp [h]] at hx;simp [hx]
theorem all_step {α:Type}(f:α->Bool)(L:List α)(k:Nat)(d:α)(h:k<L.length)(ha:(L.take k).all f=true)(hx:f (L.getD k d)=true):(L.take (k+1)).all f=true:=by
 rw [List.take_succ_eq_append_getElem h,List.all_append,ha];rw [show L.getD k d=L[k] by simp [h]] at hx;simp [hx]
theorem all_end {α:Type}(f:α->Bool)(L:List α)(k:Nat)(h:¬ k<L.length)(ha:(L.take k).all f=true):L.all f=true:=by
 rw [List.take_of_length_le (by omega)] at ha;exact ha
theorem clB_hit {n:Int}{L:List Int}(h:L.all (litIn n)=false):clB n L=false:=by unfold clB;rw [h];rfl
theorem clB_end {n:Int}{L:List Int}(h:L.all (litIn n)=true):clB n L=decide (L.length<=48):=by unfold clB;rw [h];rfl
theorem dec_len (n:Nat)(c:Nat):decide ((n:Int)<=(c:Int))=decide (n<=c):=by simp
theorem l01In (x a b:Int)(w:World):Calls Tryz.prog 61 #[.int .i64 x,.int .i64 a,.int .i64 b] w fun e w'=>e=.returned (.bool (decide (a<=x/\x<=b)))/\w'=w:=by
 by_cases h1:a<=x
 ·by_cases h2:x<=b
  ·rw [decide_eq_true ⟨h1,h2⟩];go_enter Tryz.func61,Tryz.ntmps61;go_wp2;go_ret;exact⟨rfl,rfl⟩
  ·rw [decide_eq_false (fun h=>h2 h.2)];go_enter Tryz.func61,Tryz.ntmps61;go_wp2;go_ret;exact⟨rfl,rfl⟩
 ·rw [decide_eq_false (fun h=>h1 h.1)];go_enter Tryz.func61,Tryz.ntmps61;go_wp2;go_ret;exact⟨rfl,rfl⟩
theorem specClause (v:Value)(L:List Int)(n:Int)(w:World)(hL:L.length<=1048576)(hv:Sl w v L) :
  Calls Tryz.prog 115 #[v,.int .i64 n] w fun e w'=>e=.returned (.bool (clB n L))/\w'=w:=by
 obtain⟨a,cap,rfl,ha⟩:=hv;have HA:=qH ha;clear ha;go_enter Tryz.func115,Tryz.ntmps115;go_wp2;go_loop [5] (fun i=>∃ k:Nat,k<=L.length/\i=.int .i64 k/\Hid ((L.take k).all (litIn n)=true)) (fun i=>L.length - (intOf i).toNat)
 case atStart=>exact⟨0,Nat.zero_le _,rfl,by show _=_;simp⟩
 case round =>
  obtain⟨k,hk,rfl,hall⟩:=hrel;by_cases hlt:k<L.length
  ·rcases qU HA with h | ⟨b,off,rfl,hb,hcb⟩
   ·rw [h] at hlt;simp at hlt
   ·have c1:=hcb k hlt;have hi':(k:Int)<(L.length:Int):=by omega
    have h1:=all_hit (litIn n) L k 0 hlt;have h2:=all_step (litIn n) L k 0 hlt (qU hall);generalize L.getD k 0=x at *;have cx:=lits.specLitOk x;have cv:=lits.specLitVar x;cases hx:okB x
    ·rw [hx] at cx;have CX:=qH cx;have H:=qH (clB_hit (h1 (by unfold litIn;rw [hx];rfl)));clear cx cv h1 h2 hx hcb HA hall;go_wp2_with (go_at_call 118;refine (qU CX _).mono ?_;rintro e w' ⟨rfl,rfl⟩);go_ret;exact⟨ret_bool (qU H).symm,rfl⟩
    ·rw [hx] at cx;have CX:=qH cx;have CV:=qH cv;by_cases hq:varI x<=n
     ·have H:=qH (h2 (by unfold litIn;rw [hx,decide_eq_true hq];rfl));clear cx cv h1 h2 hx hcb HA hall;generalize varI x=y at *;have hq':¬ n<y:=by omega
      go_wp2_with (first | (go_at_call 118;refine (qU CX _).mono ?_;rintro e w' ⟨rfl,rfl⟩) | (go_at_call 138;refine (qU CV _).mono ?_;rintro e w' ⟨rfl,rfl⟩))
      go_round
      case rel=>exact⟨k+1,by omega,by go_num,H⟩
      case measure=>simp [intOf];omega
     ·have H:=qH (clB_hit (h1 (by unfold litIn;rw [decide_eq_false hq,Bool.and_false])));clear cx cv h1 h2 hx hcb HA hall;generalize varI x=y at *;have hq':n<y:=by omega
      go_wp2_with (first | (go_at_call 118;refine (qU CX _).mono ?_;rintro e w' ⟨rfl,rfl⟩) | (go_at_call 138;refine (qU CV _).mono ?_;rintro e w' ⟨rfl,rfl⟩));go_ret;exact⟨ret_bool (qU H).symm,rfl⟩
  ·have hi':¬ (k:Int)<(L.length:Int):=by omega
   have HR:=qH (clB_end (all_end (litIn n) L k hlt (qU hall)));clear HA hall;go_wp2;go_ret;exact⟨ret_bool (by rw [qU HR];exact dec_len _ 48),rfl⟩
theorem literalOf (x n:Int)(w:World):Calls Tryz.prog 172 #[.int .i64 x,.int .i64 n] w fun e w'=>e=.returned (.bool (litIn n x))/\w'=w:=by
 have cx:=lits.implLitOk x;have cv:=lits.implLitVar x;unfold litIn;cases hx:okB x
 ·rw [hx] at cx;have CX:=qH cx;clear cx cv hx;go_enter Tryz.func172,Tryz.ntmps172;go_wp2_with (go_at_call 167;refine (qU CX _).mono ?_;rintro e w' ⟨rfl,rfl⟩);go_ret;exact⟨rfl,rfl⟩
 ·rw [hx] at cx;have CX:=qH cx;have CV:=qH cv;clear cx cv hx;generalize varI x=y at *;go_enter Tryz.func172,Tryz.ntmps172;go_wp2_with (first | (go_at_call 167;refine (qU CX _).mono ?_;rintro e w' ⟨rfl,rfl⟩) | (go_at_call 188;refine (qU CV _).mono ?_;rintro e w' ⟨rfl,rfl⟩));go_ret;exact⟨rfl,rfl⟩
theorem literalsOf (v:Value)(L:List Int)(n:Int)(w:World)(hL:L.length<=1048576)(hv:Sl w v L) :
  Calls Tryz.prog 142 #[v,.int .i64 n] w fun e w'=>e=.returned (.bool (L.all (litIn n)))/\w'=w:=by
 obtain⟨a,cap,rfl,ha⟩:=hv;have HA:=qH ha;clear ha;go_enter Tryz.func142,Tryz.ntmps142;go_wp2;go_loop [9] (fun i=>∃ k:Nat,k<=L.length/\i=.int .i64 k/\Hid ((L.take k).all (litIn n)=true)) (fun i=>L.length - (intOf i).toNat)
 case atStart=>exact⟨0,Nat.zero_le _,rfl,by show _=_;simp⟩
 case round =>
  obtain⟨k,hk,rfl,hall⟩:=hrel;by_cases hlt:k<L.length
  ·rcases qU HA with h | ⟨b,off,rfl,hb,hcb⟩
   ·rw [h] at hlt;simp at hlt
   ·have c1:=hcb k hlt;have hi':(k:Int)<(L.length:Int):=by omega
    have h1:=all_hit (litIn n) L k 0 hlt;have h2:=all_step (litIn n) L k 0 hlt (qU hall);generalize L.getD k 0=x at *;have cx:=literalOf x n;cases hx:litIn n x
    ·rw [hx] at cx;have CX:=qH cx;have H:=qH (h1 hx);clear cx h1 h2 hx hcb HA hall;go_wp2_with (go_at_call 172;refine (qU CX _).mono ?_;rintro e w' ⟨rfl,rfl⟩);go_ret;exact⟨ret_bool (qU H).symm,rfl⟩
    ·rw [hx] at cx;have CX:=qH cx;have H:=qH (h2 hx);clear cx h1 h2 hx hcb HA hall;go_wp2_with (go_at_call 172;refine (qU CX _).mono ?_;rintro e w' ⟨rfl,rfl⟩)
     go_round
     case rel=>exact⟨k+1,by omega,by go_num,H⟩
     case measure=>simp [intOf];omega
  ·have hi':¬ (k:Int)<(L.length:Int):=by omega
   have HR:=qH (all_end (litIn n) L k hlt (qU hall));clear HA hall;go_wp2;go_ret;exact⟨ret_bool (qU HR).symm,rfl⟩
theorem clauseOf (v:Value)(L:List Int)(n:Int)(w:World)(hL:L.length<=1048576)(hv:Sl w v L) :
  Calls Tryz.prog 121 #[v,.int .i64 n] w fun e w'=>e=.returned (.bool (clB n L))/\w'=w:=by
 have C:=qH (literalsOf v L n w hL hv);obtain⟨a,cap,rfl,ha⟩:=hv;unfold clB;clear ha;by_cases h:L.length<=48
 ·rw [decide_eq_true h,Bool.and_true];have hi:(L.length:Int)<=48:=by omega
  go_enter Tryz.func121,Tryz.ntmps121;go_wp2_with (go_at_call 142;refine (qU C).mono ?_;rintro e w' ⟨rfl,rfl⟩);go_ret;exact⟨rfl,rfl⟩
 ·rw [decide_eq_false h,Bool.and_false];have hi:¬ (L.length:Int)<=48:=by omega
  go_enter Tryz.func121,Tryz.ntmps121;go_wp2_with fail;go_ret;exact⟨rfl,rfl⟩
theorem specCnfOk (v:Value)(n:Int)(LL:List (List Int))(w:World)(hn:tot LL<=1048576)(hv:Sls w v LL) :
  Calls Tryz.prog 64 #[.agg #[.int .i64 n,v]] w fun e w'=>e=.returned (.bool (cnfB n LL))/\w.grownBy w' none:=by
 obtain⟨a,cap,rfl,ha⟩:=hv;have hl:=Nat.le_trans (css.tot_len LL) hn;have G0:=qH (sl.qA w (.cells #[.int .i64 n,.slice a LL.length cap] 26) none);by_cases hN:0<=n/\n<=24
 ·by_cases hc:LL.length<=120
  ·have li:=fun w=>l01In n 0 24 w;rw [decide_eq_true hN] at li;have LI:=qH li;have N0:¬ n<0:=by omega
   have N1:¬ 24<n:=by omega
   have hc':¬ (120:Int)<(LL.length:Int):=by omega
   have bx:=qH (cf.Box.new 26 w (.int .i64 n) (.slice a LL.length cap));have EQ:=qH (show cnfB n LL=LL.all (clB n) by unfold cnfB;rw [decide_eq_true hN,decide_eq_true hc];rfl);have HA:=qH ha;clear ha hN hc li;go_enter Tryz.func64,Tryz.ntmps64;go_wp2_with (go_at_call 61;refine (qU LI _).mono ?_;rintro e w' ⟨rfl,rfl⟩);go_loopw [3] (fun i wr=>∃ k:Nat,k<=LL.length/\i=.int .i64 k/\Hid ((LL.take k).all (clB n)=true)/\Hid ((w.alloc (.cells #[.int .i64 n,.slice a LL.length cap] 26)).grownBy wr none)) (fun i _=>LL.length - (intOf i).toNat)
   case atStart=>exact⟨0,Nat.zero_le _,rfl,(by show _=_;simp),grown_refl _⟩
   case round =>
    obtain⟨k,hk,rfl,hall,hg⟩:=hrel;have bk:=(qU bx).kept (qU hg);have x0:=bk.c0;have x1:=bk.c1;have g1:=qT (qU G0) (qU hg);clear bx bk;by_cases hlt:k<LL.length
    ·rcases qU HA with h | ⟨b,off,rfl,hb,hcb⟩
     ·rw [h] at hlt;simp at hlt
     ·obtain⟨u,hu,hs⟩:=hcb k hlt;have c1:wr.cell? ⟨b,off+k,none⟩=some u:=g1.cell hu nofun;have hi':(k:Int)<(LL.length:Int):=by omega
      have h1:=all_hit (clB n) LL k [] hlt;have h2:=all_step (clB n) LL k [] hlt (qU hall);have hL:=Nat.le_trans (css.tot_in LL k) hn;generalize LL.getD k []=L at *;have cx:=fun m=>specClause u L n (wr.drewN m) hL ((hs.kept g1 (.inl rfl)).kept (grown_drewN wr m) (.inl rfl));have G1:=qH g1;cases hx:clB n L
      ·rw [hx] at cx;have C:=qH cx;have H:=qH (h1 hx);clear cx h1 h2 hx hcb HA hall hs hu g1;go_wp2
       go_quiet (first | (go_at_call 115;exact Calls.quiet_of_same (qU C _)))
       go_wp2;go_ret;exact⟨ret_bool (by rw [qU EQ];exact (qU H).symm),grown_trans (qU G1) (grown_drewN _ _)⟩
      ·rw [hx] at cx;have C:=qH cx;have H:=qH (h2 hx);clear cx h1 h2 hx hcb HA hall hs hu g1;go_wp2
       go_quiet (first | (go_at_call 115;exact Calls.quiet_of_same (qU C _)))
       go_wp2;go_roundw
       case rel=>exact⟨k+1,by omega,by go_num,H,grown_trans (qU hg) (grown_drewN _ _)⟩
       case measure=>simp [intOf];omega
    ·have hi':¬ (k:Int)<(LL.length:Int):=by omega
     have HR:=qH (all_end (clB n) LL k hlt (qU hall));have G1:=qH g1;clear HA hall g1;go_wp2;go_ret;exact⟨ret_bool (by rw [qU EQ];exact (qU HR).symm),qU G1⟩
  ·have E:=qH (show cnfB n LL=false by unfold cnfB;rw [decide_eq_false hc];simp);have li:=fun w=>l01In n 0 24 w;rw [decide_eq_true hN] at li;have LI:=qH li;have N0:¬ n<0:=by omega
   have N1:¬ 24<n:=by omega
   have hc':(120:Int)<(LL.length:Int):=by omega
   clear ha hN hc li;go_enter Tryz.func64,Tryz.ntmps64;go_wp2_with (go_at_call 61;refine (qU LI _).mono ?_;rintro e w' ⟨rfl,rfl⟩);go_ret;exact⟨ret_bool (qU E).symm,qU G0⟩
 ·have E:=qH (show cnfB n LL=false by unfold cnfB;rw [decide_eq_false hN];simp);have li:=fun w=>l01In n 0 24 w;rw [decide_eq_false hN] at li;have LI:=qH li;clear ha li;clear hN
  all_goals
   skip
   go_enter Tryz.func64,Tryz.ntmps64;go_wp2_with (go_at_call 61;refine (qU LI _).mono ?_;rintro e w' ⟨rfl,rfl⟩);go_ret;exact⟨ret_bool (qU E).symm,qU G0⟩
theorem implCnfOk (v:Value)(n:Int)(LL:List (List Int))(w:World)(hn:tot LL<=1048576)(hv:Sls w v LL) :
  Calls Tryz.prog 73 #[.agg #[.int .i64 n,v]] w fun e w'=>e=.returned (.bool (cnfB n LL))/\w.grownBy w' none:=by
 obtain⟨a,cap,rfl,ha⟩:=hv;have hl:=Nat.le_trans (css.tot_len LL) hn;have G0:=qH (sl.qA w (.cells #[.int .i64 n,.slice a LL.length cap] 26) none);by_cases hN:0<=n/\n<=24
 ·by_cases hc:LL.length<=120
  ·have li:=trivial
   skip
   have LI:=qH li;have N0:¬ n<0:=by omega
   have N1:¬ 24<n:=by omega
   have hc':¬ (120:Int)<(LL.length:Int):=by omega
   have bx:=qH (cf.Box.new 26 w (.int .i64 n) (.slice a LL.length cap));have EQ:=qH (show cnfB n LL=LL.all (clB n) by unfold cnfB;rw [decide_eq_true hN,decide_eq_true hc];rfl);have HA:=qH ha;clear ha hN hc li;go_enter Tryz.func73,Tryz.ntmps73;go_wp2_with fail;go_loopw [22] (fun i wr=>∃ k:Nat,k<=LL.length/\i=.int .i64 k/\Hid ((LL.take k).all (clB n)=true)/\Hid ((w.alloc (.cells #[.int .i64 n,.slice a LL.length cap] 26)).grownBy wr none)) (fun i _=>LL.length - (intOf i).toNat)
   case atStart=>exact⟨0,Nat.zero_le _,rfl,(by show _=_;simp),grown_refl _⟩
   case round =>
    obtain⟨k,hk,rfl,hall,hg⟩:=hrel;have bk:=(qU bx).kept (qU hg);have x0:=bk.c0;have x1:=bk.c1;have g1:=qT (qU G0) (qU hg);clear bx bk;by_cases hlt:k<LL.length
    ·rcases qU HA with h | ⟨b,off,rfl,hb,hcb⟩
     ·rw [h] at hlt;simp at hlt
     ·obtain⟨u,hu,hs⟩:=hcb k hlt;have c1:wr.cell? ⟨b,off+k,none⟩=some u:=g1.cell hu nofun;have hi':(k:Int)<(LL.length:Int):=by omega
      have h1:=all_hit (clB n) LL k [] hlt;have h2:=all_step (clB n) LL k [] hlt (qU hall);have hL:=Nat.le_trans (css.tot_in LL k) hn;generalize LL.getD k []=L at *;have cx:=fun m=>clauseOf u L n (wr.drewN m) hL ((hs.kept g1 (.inl rfl)).kept (grown_drewN wr m) (.inl rfl));have G1:=qH g1;cases hx:clB n L
      ·rw [hx] at cx;have C:=qH cx;have H:=qH (h1 hx);clear cx h1 h2 hx hcb HA hall hs hu g1;go_wp2_with fail;refine (qU C 0).mono ?_;rintro e w' ⟨rfl,hw⟩;have hw':=hw.symm;clear hw;subst hw';go_wp2_with fail;go_ret;exact⟨ret_bool (by rw [qU EQ];exact (qU H).symm),qU G1⟩
      ·rw [hx] at cx;have C:=qH cx;have H:=qH (h2 hx);clear cx h1 h2 hx hcb HA hall hs hu g1;go_wp2_with fail;refine (qU C 0).mono ?_;rintro e w' ⟨rfl,hw⟩;have hw':=hw.symm;clear hw;subst hw';go_wp2_with fail;go_roundw
       case rel=>exact⟨k+1,by omega,by go_num,H,hg⟩
       case measure=>simp [intOf];omega
    ·have hi':¬ (k:Int)<(LL.length:Int):=by omega
     have HR:=qH (all_end (clB n) LL k hlt (qU hall));have G1:=qH g1;clear HA hall g1;go_wp2;go_ret;exact⟨ret_bool (by rw [qU EQ];exact (qU HR).symm),qU G1⟩
  ·have E:=qH (show cnfB n LL=false by unfold cnfB;rw [decide_eq_false hc];simp);have li:=trivial
   skip
   have LI:=qH li;have N0:¬ n<0:=by omega
   have N1:¬ 24<n:=by omega
   have hc':(120:Int)<(LL.length:Int):=by omega
   clear ha hN hc li;go_enter Tryz.func73,Tryz.ntmps73;go_wp2_with fail;go_ret;exact⟨ret_bool (qU E).symm,qU G0⟩
 ·have E:=qH (show cnfB n LL=false by unfold cnfB;rw [decide_eq_false hN];simp);have li:=trivial
  skip
  have LI:=qH li;clear ha li;rcases (show n<0∨(¬ n<0/\24<n) by omega) with N0 | ⟨N0,N1⟩
  all_goals
   clear hN;go_enter Tryz.func73,Tryz.ntmps73;go_wp2_with fail;go_ret;exact⟨ret_bool (qU E).symm,qU G0⟩
end ok
namespace tr
open css (Sls tot)
open cf (Box)
open ok (cnfB all_hit all_step all_end)
def litT (A:List Int)(x:Int):Bool:=if varI x=0 then false else (decide (varI x<=(A.length:Int)) && decide (A.getD (varI x - 1).toNat 0=1)) == decide (0<x)
def clT (A L:List Int):Bool:=L.any (litT A)
def cnfT (A:List Int)(LL:List (List Int)):Bool:=LL.all (clT A)
def bitB (x:Int):Bool:=decide (0<=x/\x<=1)
def assignB (n:Int)(LL:List (List Int))(A:List Int):Bool:=cnfB n LL && decide ((A.length:Int)=n) && A.all bitB
def trueB (n:Int)(LL:List (List Int))(A:List Int):Bool:=assignB n LL A && cnfT A LL
theorem varI_bd (x:Int):0<=varI x/\varI x<=24:=by
 by_cases h:x≠0/\-24<=x/\x<=24
 ·rw [lits.varI_yes h]
  split <;> omega
 ·rw [lits.varI_no h];omega
theorem litT_no {A:List Int}{x:Int}(h:varI x=0):litT A x=false:=if_pos h
theorem litT_far {A:List Int}{x:Int}{m:Nat}(h:varI x=(m:Int)+1)(hm:¬ m<A.length):litT A x=(false == decide (0<x)):=by
 unfold litT;rw [if_neg (by omega),decide_eq_false (by omega)];rfl
theorem litT_near {A:List Int}{x:Int}{m:Nat}(h:varI x=(m:Int)+1)(hm:m<A.length):litT A x=(decide (A.getD m 0=1) == decide (0<x)):=by
 unfold litT;rw [if_neg (by omega),decide_eq_true (show varI x<=(A.length:Int) by omega),h];have e:((m:Int)+1 - 1).toNat=m:=by omega
 rw [e];rfl
theorem any_hit {α:Type}(f:α->Bool)(L:List α)(k:Nat)(d:α)(h:k<L.length)(hx:f (L.getD k d)=true):L.any f=true:=by
 rw [List.any_eq_true];refine⟨L[k],List.getElem_mem h,?_⟩;rw [show L.getD k d=L[k] by simp [h]] at hx;exact hx
theorem any_step {α:Type}(f:α->Bool)(L:List α)(k:Nat)(d:α)(h:k<L.length)(ha:(L.take k).any f=false)(hx:f (L.getD k d)=false):(L.take (k+1)).any f=false:=by
 rw [List.take_succ_eq_append_getElem h,List.any_append,ha];rw [show L.getD k d=L[k] by simp [h]] at hx;simp [hx]
theorem any_end {α:Type}(f:α->Bool)(L:List α)(k:Nat)(h:¬ k<L.length)(ha:(L.take k).any f=false):L.any f=false:=by
 rw [List.take_of_length_le (by omega)] at ha;exact ha
theorem literalTrue (x:Int)(u:Value)(A:List Int)(w:World)(hA:A.length<=1048576)(hu:Sl w u A) :
  Calls Tryz.prog 256 #[.int .i64 x,u] w fun e w'=>e=.returned (.bool (litT A x))/\w'=w:=by
 obtain⟨a,cap,rfl,ha⟩:=hu;have cv:=lits.implLitVar x;have bd:=varI_bd x;by_cases h0:varI x=0
 ·rw [litT_no h0];rw [h0] at cv;have CV:=qH cv;clear cv h0 ha bd;go_enter Tryz.func256,Tryz.ntmps256;go_wp2_with (go_at_call 188;refine (qU CV _).mono ?_;rintro e w' ⟨rfl,rfl⟩);go_ret;exact⟨rfl,rfl⟩
 ·obtain⟨m,hm⟩:∃ m:Nat,varI x=(m:Int)+1:=⟨(varI x - 1).toNat,by omega⟩;have hm':m<=24:=by omega
  by_cases hl:m<A.length
  ·rw [litT_near hm hl];rcases ha with rfl | ⟨b,off,rfl,hb,hcb⟩
   ·simp at hl
   ·have c1:=hcb m hl;rw [hm] at cv;have CV:=qH cv;have hi:(m:Int)+1<=(A.length:Int):=by omega
    have hi2:(m:Int)<(A.length:Int):=by omega
    have h1:(((m:Int)+1) == 0)=false:=by simp;omega
    generalize A.getD m 0=z at *;clear cv hcb hm bd h0;by_cases hz:z=1
    ·subst hz;go_enter Tryz.func256,Tryz.ntmps256;go_wp2_with (go_at_call 188;refine (qU CV _).mono ?_;rintro e w' ⟨rfl,rfl⟩);go_ret;exact⟨ret_bool (by simp),rfl⟩
    ·have hz':(z == 1)=false:=by simpa using hz
     rw [decide_eq_false hz];go_enter Tryz.func256,Tryz.ntmps256;go_wp2_with (go_at_call 188;refine (qU CV _).mono ?_;rintro e w' ⟨rfl,rfl⟩);go_ret;exact⟨ret_bool (by simp),rfl⟩
  ·rw [litT_far hm hl];rw [hm] at cv;have CV:=qH cv;have hi:¬ (m:Int)+1<=(A.length:Int):=by omega
   have h1:(((m:Int)+1) == 0)=false:=by simp;omega
   clear cv hm bd h0 ha;go_enter Tryz.func256,Tryz.ntmps256;go_wp2_with (go_at_call 188;refine (qU CV _).mono ?_;rintro e w' ⟨rfl,rfl⟩);go_ret;exact⟨ret_bool (by simp),rfl⟩
theorem implClauseTrue (v u:Value)(L A:List Int)(w:World)(hL:L.length<=1048576)(hA:A.length<=1048576)(hv:Sl w v L)(hu:Sl w u A) :
  Calls Tryz.prog 255 #[v,u] w fun e w'=>e=.returned (.bool (clT A L))/\w'=w:=by
 obtain⟨a,cap,rfl,ha⟩:=hv;have HA:=qH ha;have HU:=qH hu;clear ha hu;go_enter Tryz.func255,Tryz.ntmps255;go_wp2;go_loop [9] (fun i=>∃ k:Nat,k<=L.length/\i=.int .i64 k/\Hid ((L.take k).any (litT A)=false)) (fun i=>L.length - (intOf i).toNat)
 case atStart=>exact⟨0,Nat.zero_le _,rfl,by show _=_;simp⟩
 case round =>
  obtain⟨k,hk,rfl,hall⟩:=hrel;by_cases hlt:k<L.length
  ·rcases qU HA with h | ⟨b,off,rfl,hb,hcb⟩
   ·rw [h] at hlt;simp at hlt
   ·have c1:=hcb k hlt;have hi':(k:Int)<(L.length:Int):=by omega
    have h1:=any_hit (litT A) L k 0 hlt;have h2:=any_step (litT A) L k 0 hlt (qU hall);generalize L.getD k 0=x at *;have cx:=literalTrue x u A w hA (qU HU);cases hx:litT A x
    ·rw [hx] at cx;have CX:=qH cx;have H:=qH (h2 hx);clear cx h1 h2 hx hcb HA HU hall;go_wp2_with (go_at_call 256;refine (qU CX).mono ?_;rintro e w' ⟨rfl,rfl⟩)
     go_round
     case rel=>exact⟨k+1,by omega,by go_num,H⟩
     case measure=>simp [intOf];omega
    ·rw [hx] at cx;have CX:=qH cx;have H:=qH (h1 hx);clear cx h1 h2 hx hcb HA HU hall;go_wp2_with (go_at_call 256;refine (qU CX).mono ?_;rintro e w' ⟨rfl,rfl⟩);go_ret;exact⟨ret_bool (qU H).symm,rfl⟩
  ·have hi':¬ (k:Int)<(L.length:Int):=by omega
   have HR:=qH (any_end (litT A) L k hlt (qU hall));clear HA HU hall;go_wp2;go_ret;exact⟨ret_bool (qU HR).symm,rfl⟩
theorem specClauseTrue (v u:Value)(L A:List Int)(w:World)(hL:L.length<=1048576)(hA:A.length<=1048576)(hv:Sl w v L)(hu:Sl w u A) :
  Calls Tryz.prog 136 #[v,u] w fun e w'=>e=.returned (.bool (clT A L))/\w'=w:=by
 obtain⟨a,cap,rfl,ha⟩:=hv;obtain⟨c,cap',rfl,hc⟩:=hu;have HA:=qH ha;have HU:=qH hc;clear ha hc;go_enter Tryz.func136,Tryz.ntmps136;go_wp2;go_loop [5] (fun i=>∃ k:Nat,k<=L.length/\i=.int .i64 k/\Hid ((L.take k).any (litT A)=false)) (fun i=>L.length - (intOf i).toNat)
 case atStart=>exact⟨0,Nat.zero_le _,rfl,by show _=_;simp⟩
 case round =>
  obtain⟨k,hk,rfl,hall⟩:=hrel;by_cases hlt:k<L.length
  ·rcases qU HA with h | ⟨b,off,rfl,hb,hcb⟩
   ·rw [h] at hlt;simp at hlt
   ·have c1:=hcb k hlt;have hi':(k:Int)<(L.length:Int):=by omega
    have h1:=any_hit (litT A) L k 0 hlt;have h2:=any_step (litT A) L k 0 hlt (qU hall);generalize L.getD k 0=x at *;have cv:=lits.specLitVar x;have bd:=varI_bd x;clear hcb HA hall;by_cases h0:varI x=0
    ·have H:=qH (h2 (litT_no h0));rw [h0] at cv;have CV:=qH cv;clear cv h0 bd h1 h2 HU;go_wp2_with (go_at_call 138;refine (qU CV _).mono ?_;rintro e w' ⟨rfl,rfl⟩)
     go_round
     case rel=>exact⟨k+1,by omega,by go_num,H⟩
     case measure=>simp [intOf];omega
    ·obtain⟨m,hm⟩:∃ m:Nat,varI x=(m:Int)+1:=⟨(varI x - 1).toNat,by omega⟩;have hm':m<=24:=by omega
     have h3:(((m:Int)+1) == 0)=false:=by simp;omega
     by_cases hl:m<A.length
     ·have lt:=litT_near hm hl;rcases qU HU with h | ⟨d,off',rfl,hd,hcd⟩
      ·rw [h] at hl;simp at hl
      ·have c2:=hcd m hl;rw [hm] at cv;have CV:=qH cv;have hi:(m:Int)+1<=(A.length:Int):=by omega
       have hi2:(m:Int)<(A.length:Int):=by omega
       generalize A.getD m 0=z at *;clear cv hcd hm bd h0 HU;by_cases hz:z=1
       ·subst hz;by_cases hx:0<x
        ·have H:=qH (h1 (by rw [lt,decide_eq_true hx];rfl));clear h1 h2 lt;go_wp2_with (go_at_call 138;refine (qU CV _).mono ?_;rintro e w' ⟨rfl,rfl⟩);go_ret;exact⟨ret_bool (qU H).symm,rfl⟩
        ·have hx':decide (0<x)=false:=decide_eq_false hx;have H:=qH (h2 (by rw [lt,decide_eq_false hx];rfl));clear h1 h2 lt;go_wp2_with (go_at_call 138;refine (qU CV _).mono ?_;rintro e w' ⟨rfl,rfl⟩)
         go_round
         case rel=>exact⟨k+1,by omega,by go_num,H⟩
         case measure=>simp [intOf];omega
       ·have hz':(z == 1)=false:=by simpa using hz
        rw [decide_eq_false hz] at lt;by_cases hx:0<x
        ·have H:=qH (h2 (by rw [lt,decide_eq_true hx];rfl));clear h1 h2 lt;go_wp2_with (go_at_call 138;refine (qU CV _).mono ?_;rintro e w' ⟨rfl,rfl⟩)
         go_round
         case rel=>exact⟨k+1,by omega,by go_num,H⟩
         case measure=>simp [intOf];omega
        ·have hx':decide (0<x)=false:=decide_eq_false hx;have H:=qH (h1 (by rw [lt,decide_eq_false hx];rfl));clear h1 h2 lt;go_wp2_with (go_at_call 138;refine (qU CV _).mono ?_;rintro e w' ⟨rfl,rfl⟩);go_ret;exact⟨ret_bool (qU H).symm,rfl⟩
     ·have lt:=litT_far (A:=A) hm hl;rw [hm] at cv;have CV:=qH cv;have hi:¬ (m:Int)+1<=(A.length:Int):=by omega
      clear cv hm bd h0 HU;by_cases hx:0<x
      ·have H:=qH (h2 (by rw [lt,decide_eq_true hx];rfl));clear h1 h2 lt;go_wp2_with (go_at_call 138;refine (qU CV _).mono ?_;rintro e w' ⟨rfl,rfl⟩)
       go_round
       case rel=>exact⟨k+1,by omega,by go_num,H⟩
       case measure=>simp [intOf];omega
      ·have hx':decide (0<x)=false:=decide_eq_false hx;have H:=qH (h1 (by rw [lt,decide_eq_false hx];rfl));clear h1 h2 lt;go_wp2_with (go_at_call 138;refine (qU CV _).mono ?_;rintro e w' ⟨rfl,rfl⟩);go_ret;exact⟨ret_bool (qU H).symm,rfl⟩
  ·have hi':¬ (k:Int)<(L.length:Int):=by omega
   have HR:=qH (any_end (litT A) L k hlt (qU hall));clear HA HU hall;go_wp2;go_ret;exact⟨ret_bool (qU HR).symm,rfl⟩
theorem isAssignment (u:Value)(A:List Int)(w:World)(hA:A.length<=1048576)(hu:Sl w u A) :
  Calls Tryz.prog 252 #[u] w fun e w'=>e=.returned (.bool (A.all bitB))/\w'=w:=by
 obtain⟨a,cap,rfl,ha⟩:=hu;have HA:=qH ha;clear ha;go_enter Tryz.func252,Tryz.ntmps252;go_wp2;go_loop [7] (fun i=>∃ k:Nat,k<=A.length/\i=.int .i64 k/\Hid ((A.take k).all bitB=true)) (fun i=>A.length - (intOf i).toNat)
 case atStart=>exact⟨0,Nat.zero_le _,rfl,by show _=_;simp⟩
 case round =>
  obtain⟨k,hk,rfl,hall⟩:=hrel;by_cases hlt:k<A.length
  ·rcases qU HA with h | ⟨b,off,rfl,hb,hcb⟩
   ·rw [h] at hlt;simp at hlt
   ·have c1:=hcb k hlt;have hi':(k:Int)<(A.length:Int):=by omega
    have h1:=all_hit bitB A k 0 hlt;have h2:=all_step bitB A k 0 hlt (qU hall);generalize A.getD k 0=x at *;clear hcb HA hall;by_cases e0:x=0
    ·subst e0;have H:=qH (h2 rfl);clear h1 h2;go_wp2
     go_round
     case rel=>exact⟨k+1,by omega,by go_num,H⟩
     case measure=>simp [intOf];omega
    ·have e0':(x != 0)=true:=by simpa using e0
     by_cases e1:x=1
     ·subst e1;have H:=qH (h2 rfl);clear h1 h2;go_wp2
      go_round
      case rel=>exact⟨k+1,by omega,by go_num,H⟩
      case measure=>simp [intOf];omega
     ·have e1':(x != 1)=true:=by simpa using e1
      have H:=qH (h1 (by unfold bitB;exact decide_eq_false (by omega)));clear h1 h2;go_wp2;go_ret;exact⟨ret_bool (qU H).symm,rfl⟩
  ·have hi':¬ (k:Int)<(A.length:Int):=by omega
   have HR:=qH (all_end bitB A k hlt (qU hall));clear HA hall;go_wp2;go_ret;exact⟨ret_bool (qU HR).symm,rfl⟩
theorem implAssignOk (v u:Value)(n:Int)(LL:List (List Int))(A:List Int)(w:World)(hn:tot LL<=1048576)(hA:A.length<=1048576)(hv:Sls w v LL)(hu:Sl w u A) :
  Calls Tryz.prog 254 #[.agg #[.int .i64 n,v],u] w fun e w'=>e=.returned (.bool (assignB n LL A))/\w.grownBy w' none:=by
 have g0:=sl.qA w (.cells #[.int .i64 n,v] 26) none;have C0:=ok.implCnfOk v n LL _ hn (hv.kept g0);have F0:=qH (Box.new 26 w (.int .i64 n) v);have G0:=qH g0;have U:=qH (fun w1 (g:(w.alloc (.cells #[.int .i64 n,v] 26)).grownBy w1 none)=>isAssignment u A w1 hA ((hu.kept g0 (.inl rfl)).kept g (.inl rfl)));obtain⟨a,cap,rfl,_⟩:=hu;clear hv g0;unfold assignB;cases hb:cnfB n LL
 ·rw [hb] at C0;have C:=qH C0;clear C0 hb;go_enter Tryz.func254,Tryz.ntmps254;go_wp2_with fail;refine (qU C).mono ?_;rintro e w1 ⟨rfl,g1⟩;have G1:=qH (qT (qU G0) g1);clear g1 U;go_wp2_with fail;go_ret;exact⟨rfl,qU G1⟩
 ·rw [hb] at C0;have C:=qH C0;clear C0 hb;by_cases hl:(A.length:Int)=n
  ·rw [decide_eq_true hl];have hl':((A.length:Int) == n)=true:=by simpa using hl
   have HL:=qH hl;clear hl;go_enter Tryz.func254,Tryz.ntmps254;go_wp2_with fail;refine (qU C).mono ?_;rintro e w1 ⟨rfl,g1⟩;have G1:=qH (qT (qU G0) g1);have x0:=((qU F0).kept g1).c0;have U1:=qH (qU U w1 g1);clear g1 U F0 C;go_wp2_with fail;refine (qU U1).mono ?_;rintro e w2 ⟨rfl,hw⟩;have hw':=hw.symm;clear hw;subst hw';go_wp2_with fail;go_ret;exact⟨rfl,qU G1⟩
  ·rw [decide_eq_false hl];have hl':((A.length:Int) == n)=false:=by simpa using hl
   clear hl;go_enter Tryz.func254,Tryz.ntmps254;go_wp2_with fail;refine (qU C).mono ?_;rintro e w1 ⟨rfl,g1⟩;have G1:=qH (qT (qU G0) g1);have x0:=((qU F0).kept g1).c0;clear g1 U F0 C;go_wp2_with fail;go_ret;exact⟨rfl,qU G1⟩
theorem specAssignOk (v u:Value)(n:Int)(LL:List (List Int))(A:List Int)(w:World)(hn:tot LL<=1048576)(hA:A.length<=1048576)(hv:Sls w v LL)(hu:Sl w u A) :
  Calls Tryz.prog 90 #[.agg #[.int .i64 n,v],u] w fun e w'=>e=.returned (.bool (assignB n LL A))/\w.grownBy w' none:=by
 have g0:=sl.qA w (.cells #[.int .i64 n,v] 26) none;have C0:=qH (ok.specCnfOk v n LL _ hn (hv.kept g0));have F0:=qH (Box.new 26 w (.int .i64 n) v);have G0:=qH g0;obtain⟨a,cap,rfl,ha⟩:=hu;have HA:=qH ha;clear hv g0 ha;go_enter Tryz.func90,Tryz.ntmps90;go_wp2;go_loop [5] (fun i=>∃ k:Nat,k<=A.length/\i=.int .i64 k/\Hid ((A.take k).all bitB=true)) (fun i=>A.length - (intOf i).toNat)
 case atStart=>exact⟨0,Nat.zero_le _,rfl,by show _=_;simp⟩
 case round =>
  obtain⟨k,hk,rfl,hall⟩:=hrel;by_cases hlt:k<A.length
  ·rcases qU HA with h | ⟨b,off,rfl,hb,hcb⟩
   ·rw [h] at hlt;simp at hlt
   ·have c1:=hcb k hlt;have c2:(w.alloc (.cells #[.int .i64 n,v] 26)).cell? ⟨b,off+k,none⟩=some (.int .i64 (A.getD k 0)):=(qU G0).cell c1 nofun;have hi':(k:Int)<(A.length:Int):=by omega
    have h1:=all_hit bitB A k 0 hlt;have h2:=all_step bitB A k 0 hlt (qU hall);generalize A.getD k 0=x at *;have cx:=fun w=>ok.l01In x 0 1 w;clear hcb HA hall;cases hx:bitB x
    ·have hx':=hx;unfold bitB at hx';rw [hx'] at cx;have CX:=qH cx;have H:=qH (show assignB n LL A=false by unfold assignB;rw [h1 hx,Bool.and_false]);clear h1 h2 hx hx' cx;go_wp2_with (go_at_call 61;refine (qU CX _).mono ?_;rintro e w' ⟨rfl,rfl⟩);go_ret;exact⟨ret_bool (qU H).symm,qU G0⟩
    ·have hx':=hx;unfold bitB at hx';rw [hx'] at cx;have CX:=qH cx;have H:=qH (h2 hx);clear h1 h2 hx hx' cx;go_wp2_with (go_at_call 61;refine (qU CX _).mono ?_;rintro e w' ⟨rfl,rfl⟩)
     go_round
     case rel=>exact⟨k+1,by omega,by go_num,H⟩
     case measure=>simp [intOf];omega
  ·have hi':¬ (k:Int)<(A.length:Int):=by omega
   have ha:=all_end bitB A k hlt (qU hall);have C:=qU C0;clear HA hall C0;cases hb:cnfB n LL
   ·rw [hb] at C;have C1:=qH C;have H:=qH (show assignB n LL A=false by unfold assignB;rw [hb];rfl);clear C hb ha;go_wp2_with fail;refine (qU C1).mono ?_;rintro e w1 ⟨rfl,g1⟩;have G1:=qH (qT (qU G0) g1);have x0:=((qU F0).kept g1).c0;clear g1 F0 C1;go_wp2_with fail;go_ret;exact⟨ret_bool (qU H).symm,qU G1⟩
   ·rw [hb] at C;have C1:=qH C;have H:=qH (show assignB n LL A=decide ((A.length:Int)=n) by unfold assignB;rw [hb,ha];simp);clear C hb ha;go_wp2_with fail;refine (qU C1).mono ?_;rintro e w1 ⟨rfl,g1⟩;have G1:=qH (qT (qU G0) g1);have x0:=((qU F0).kept g1).c0;clear g1 F0 C1;go_wp2_with fail;go_ret;exact⟨ret_bool (by rw [qU H];rfl),qU G1⟩
theorem l02True (v u:Value)(n:Int)(LL:List (List Int))(A:List Int)(w:World)(hn:tot LL<=1048576)(hA:A.length<=1048576)(hv:Sls w v LL)(hu:Sl w u A) :
  Calls Tryz.prog 91 #[.agg #[.int .i64 n,v],u] w fun e w'=>e=.returned (.bool (cnfT A LL))/\w.grownBy w' none:=by
 have g0:=sl.qA w (.cells #[.int .i64 n,v] 26) none;have hv0:=hv.kept g0;have hu0:=hu.kept g0 (.inl rfl);have G0:=qH g0;have hl:=Nat.le_trans (css.tot_len LL) hn;obtain⟨a,cap,rfl,ha⟩:=hv0;have HA:=qH ha;have HU:=qH hu0;clear hv g0 ha hu hu0;go_enter Tryz.func91,Tryz.ntmps91;go_wp2;go_loop [5] (fun i=>∃ k:Nat,k<=LL.length/\i=.int .i64 k/\Hid ((LL.take k).all (clT A)=true)) (fun i=>LL.length - (intOf i).toNat)
 case atStart=>exact⟨0,Nat.zero_le _,rfl,by show _=_;simp⟩
 case round =>
  obtain⟨k,hk,rfl,hall⟩:=hrel;by_cases hlt:k<LL.length
  ·rcases qU HA with h | ⟨b,off,rfl,hb,hcb⟩
   ·rw [h] at hlt;simp at hlt
   ·obtain⟨x,c1,hs⟩:=hcb k hlt;have hi':(k:Int)<(LL.length:Int):=by omega
    have h1:=all_hit (clT A) LL k [] hlt;have h2:=all_step (clT A) LL k [] hlt (qU hall);have hL:=Nat.le_trans (css.tot_in LL k) hn;generalize LL.getD k []=L at *;have cx:=specClauseTrue x u L A _ hL hA hs (qU HU);clear hcb HA hall hs HU;cases hx:clT A L
    ·rw [hx] at cx;have CX:=qH cx;have H:=qH (h1 hx);clear h1 h2 hx cx;go_wp2_with fail;refine (qU CX).mono ?_;rintro e w2 ⟨rfl,hw⟩;have hw':=hw.symm;clear hw;subst hw';go_wp2_with fail;go_ret;exact⟨ret_bool (qU H).symm,qU G0⟩
    ·rw [hx] at cx;have CX:=qH cx;have H:=qH (h2 hx);clear h1 h2 hx cx;go_wp2_with fail;refine (qU CX).mono ?_;rintro e w2 ⟨rfl,hw⟩;have hw':=hw.symm;clear hw;subst hw';go_wp2_with fail
     go_round
     case rel=>exact⟨k+1,by omega,by go_num,H⟩
     case measure=>simp [intOf];omega
  ·have hi':¬ (k:Int)<(LL.length:Int):=by omega
   have HR:=qH (all_end (clT A) LL k hlt (qU hall));clear HA HU hall;go_wp2;go_ret;exact⟨ret_bool (qU HR).symm,qU G0⟩
theorem specCnfTrue (v u:Value)(n:Int)(LL:List (List Int))(A:List Int)(w:World)(hn:tot LL<=1048576)(hA:A.length<=1048576)(hv:Sls w v LL)(hu:Sl w u A) :
  Calls Tryz.prog 44 #[.agg #[.int .i64 n,v],u] w fun e w'=>e=.returned (.bool (trueB n LL A))/\w.grownBy w' none:=by
 have g0:=sl.qA w (.cells #[.int .i64 n,v] 26) none;have C:=specAssignOk v u n LL A _ hn hA (hv.kept g0) (hu.kept g0 (.inl rfl));have F0:=qH (Box.new 26 w (.int .i64 n) v);have G0:=qH g0;have T0:=qH (fun w1 (g:(w.alloc (.cells #[.int .i64 n,v] 26)).grownBy w1 none)=>l02True v u n LL A w1 hn hA ((hv.kept g0).kept g) ((hu.kept g0 (.inl rfl)).kept g (.inl rfl)));clear hv hu g0;unfold trueB;cases hb:assignB n LL A
 ·rw [hb] at C;have C1:=qH C;clear C hb;go_enter Tryz.func44,Tryz.ntmps44;go_wp2_with fail;refine (qU C1).mono ?_;rintro e w1 ⟨rfl,g1⟩;have G1:=qH (qT (qU G0) g1);clear g1 F0 C1 T0;go_wp2_with fail;go_ret;exact⟨rfl,qU G1⟩
 ·rw [hb] at C;have C1:=qH C;clear C hb;go_enter Tryz.func44,Tryz.ntmps44;go_wp2_with fail;refine (qU C1).mono ?_;rintro e w1 ⟨rfl,g1⟩;have G1:=qH (qT (qU G0) g1);have x0:=((qU F0).kept g1).c0;have x1:=((qU F0).kept g1).c1;have T1:=qH (qU T0 w1 g1);clear g1 F0 C1 T0;go_wp2_with fail;refine (qU T1).mono ?_;rintro e w2 ⟨rfl,g2⟩;have G2:=qH (qT (qU G1) g2);clear g2 T1 x0 x1 G1;go_wp2_with fail;go_ret;exact⟨rfl,qU G2⟩
theorem implCnfTrue (v u:Value)(n:Int)(LL:List (List Int))(A:List Int)(w:World)(hn:tot LL<=1048576)(hA:A.length<=1048576)(hv:Sls w v LL)(hu:Sl w u A) :
  Calls Tryz.prog 251 #[.agg #[.int .i64 n,v],u] w fun e w'=>e=.returned (.bool (trueB n LL A))/\w.grownBy w' none:=by
 have g0:=sl.qA w (.cells #[.int .i64 n,v] 26) none;have C:=implAssignOk v u n LL A _ hn hA (hv.kept g0) (hu.kept g0 (.inl rfl));have F0:=qH (Box.new 26 w (.int .i64 n) v);have G0:=qH g0;have hl:=Nat.le_trans (css.tot_len LL) hn;have HV:=qH (hv.kept g0);have HU:=qH (hu.kept g0 (.inl rfl));obtain⟨a,cap,rfl,_⟩:=hv;clear hu g0;unfold trueB;cases hb:assignB n LL A
 ·rw [hb] at C;have C1:=qH C;clear C hb;go_enter Tryz.func251,Tryz.ntmps251;go_wp2_with fail;refine (qU C1).mono ?_;rintro e w1 ⟨rfl,g1⟩;have G1:=qH (qT (qU G0) g1);clear g1 F0 C1 HV HU;go_wp2_with fail;go_ret;exact⟨rfl,qU G1⟩
 ·rw [hb] at C;have C1:=qH C;clear C hb;go_enter Tryz.func251,Tryz.ntmps251;go_wp2_with fail;refine (qU C1).mono ?_;rintro e w1 ⟨rfl,g1⟩;have G1:=qH (qT (qU G0) g1);have x0:=((qU F0).kept g1).c0;have x1:=((qU F0).kept g1).c1;have HV1:=qH ((qU HV).kept g1);have HU1:=qH ((qU HU).kept g1 (.inl rfl));clear g1 F0 C1 HV HU;go_wp2_with fail;go_loop [14] (fun i=>∃ k:Nat,k<=LL.length/\i=.int .i64 k/\Hid ((LL.take k).all (clT A)=true)) (fun i=>LL.length - (intOf i).toNat)
  case atStart=>exact⟨0,Nat.zero_le _,rfl,by show _=_;simp⟩
  case round =>
   obtain⟨k,hk,rfl,hall⟩:=hrel;by_cases hlt:k<LL.length
   ·obtain⟨a',cap',e,ha⟩:=qU HV1;simp only [Value.slice.injEq] at e;obtain⟨rfl,_,rfl⟩:=e;rcases ha with h | ⟨b,off,rfl,hb,hcb⟩
    ·rw [h] at hlt;simp at hlt
    ·obtain⟨x,c1,hs⟩:=hcb k hlt;have hi':(k:Int)<(LL.length:Int):=by omega
     have h1:=all_hit (clT A) LL k [] hlt;have h2:=all_step (clT A) LL k [] hlt (qU hall);have hL:=Nat.le_trans (css.tot_in LL k) hn;generalize LL.getD k []=L at *;have cx:=implClauseTrue x u L A _ hL hA hs (qU HU1);clear hcb hall hs HU1 HV1;cases hx:clT A L
     ·rw [hx] at cx;have CX:=qH cx;have H:=qH (h1 hx);clear h1 h2 hx cx;go_wp2_with fail;refine (qU CX).mono ?_;rintro e w2 ⟨rfl,hw⟩;have hw':=hw.symm;clear hw;subst hw';go_wp2_with fail;go_ret;exact⟨ret_bool (by rw [show cnfT A LL=false from qU H];rfl),qU G1⟩
     ·rw [hx] at cx;have CX:=qH cx;have H:=qH (h2 hx);clear h1 h2 hx cx;go_wp2_with fail;refine (qU CX).mono ?_;rintro e w2 ⟨rfl,hw⟩;have hw':=hw.symm;clear hw;subst hw';go_wp2_with fail
      go_round
      case rel=>exact⟨k+1,by omega,by go_num,H⟩
      case measure=>simp [intOf];omega
   ·have hi':¬ (k:Int)<(LL.length:Int):=by omega
    have HR:=qH (all_end (clT A) LL k hlt (qU hall));clear HV1 HU1 hall;go_wp2;go_ret;exact⟨ret_bool (by rw [show cnfT A LL=true from qU HR]),qU G1⟩
end tr
namespace cnt
open Go.RowKit
def cntR (m:Nat)(g:Nat->Bool):Nat:=((List.range m).filter g).length
def asg:Nat->Nat->List Int->List Int
 | 0,_,out=>out
 | n+1,k,out=>asg n (k / 2) (((k % 2:Nat):Int)::out)
def ev:Nat->Nat
 | 0=>0
 | n+1=>4*ev n+1
theorem ev_lt (n M:Nat)(h:2*n<=M):ev n<2 ^ M:=by
 induction n generalizing M with
 | zero=>exact Nat.two_pow_pos M
 | succ n ih =>
  obtain⟨M',rfl⟩:∃ M',M=M'+2:=⟨M - 2,by omega⟩;have:=ih M' (by omega);simp only [ev];rw [Nat.pow_add];omega
end cnt
namespace gr
open css (OwnS Apart own_ne' own_kind own_mono infoSl)
open cf (Box)
theorem ty1:(26:Nat)≠37:=by decide
theorem ty2:(26:Nat)≠3:=by decide
theorem box_ne {w:World}{lo n c:Nat}{t:TypeId}{v x y:Value}{xs:List Value}(h:w.ownsRow lo t 1 v n xs)(ht:(26:Nat)≠t)(hb:Box 26 w c x y):v.ownBlock≠some c:=by
 intro e;obtain⟨cs,fz,hc⟩:=own_kind h c e;unfold Box at hb;rw [hb] at hc;simp only [Option.some.injEq,Obj.cells.injEq] at hc;exact ht hc.2.1
theorem own_set {w:World}{lo n c i:Nat}{t:TypeId}{v x y u:Value}{xs:List Value}(h:w.ownsRow lo t 1 v n xs)(ht:(26:Nat)≠t)(hb:Box 26 w c x y):(w.setCell ⟨c,i,none⟩ u).ownsRow lo t 1 v n xs:=by
 refine h.kept (sl.grown_setCell w c i u) ?_;cases e:v.ownBlock with
 | none=>exact .inl rfl
 | some g=>exact .inr (fun e'=>box_ne h ht hb (e.trans e'))
theorem ownS_set {lo hi:Nat}{w:World}{v:Value}{LL:List (List Int)}{c i:Nat}{u x y:Value}(h:OwnS lo hi w v LL)(hb:Box 26 w c x y):OwnS lo hi (w.setCell ⟨c,i,none⟩ u) v LL:=by
 obtain⟨D,e,ho,hb',hi',hp⟩:=h;exact⟨D,e,own_set ho ty1 hb,hb',fun p hp=>⟨own_set (hi' p hp).1 ty2 hb,(hi' p hp).2⟩,hp⟩
theorem grow {lo mid:Nat}{wr w1:World}{v v' u:Value}{D:List (Value × List Int)}{L:List Int}{o:Obj}(ho:wr.ownsRow lo 37 1 v D.length (D.map (·.1)))(hin:∀ p∈D,Own lo mid wr p.1 p.2)(hp:D.Pairwise Apart)
  (hu:Own mid wr.heap.size wr u L) (hlo:lo<=mid) (hmid:mid<=wr.heap.size) (h1:w1.ownsRow lo 37 1 v' (D.length+1) (D.map (·.1)++[u])) (hg:(wr.alloc o).grownBy w1 v.ownBlock) :
  OwnS lo w1.heap.size w1 v' (D.map (·.2)++[L]):=by
 have sz:=hg.size;simp only [World.size_alloc] at sz;have hoA:=ho.alloc o;have kp:∀ (p:Value) (n:Nat) (xs:List Value),wr.ownsRow lo 3 1 p n xs->w1.ownsRow lo 3 1 p n xs:=fun p n xs h=>(h.alloc o).kept hg (own_ne' hoA (h.alloc o));refine⟨D++[(u,L)],by simp,?_,fun k e=>(h1.lt k e).2,?_,?_⟩
 ·have e1:(D++[(u,L)]).length=D.length+1:=by simp
  have e2:(D++[(u,L)]).map (fun p:Value × List Int=>p.1)=D.map (fun p:Value × List Int=>p.1)++[u]:=by simp
  rw [e1,e2];exact h1
 ·intro p hp';rw [List.mem_append,List.mem_singleton] at hp';rcases hp' with hp' | rfl
  ·exact⟨kp _ _ _ (hin p hp').1,fun k e=>by have:=(hin p hp').2 k e;omega⟩
  ·exact⟨kp _ _ _ (own_mono hu.1 hlo),fun k e=>by have:=hu.2 k e;omega⟩
 ·rw [List.pairwise_append];refine⟨hp,List.pairwise_singleton _ _,fun a ha b hb=>?_⟩;rw [List.mem_singleton] at hb;subst hb;intro k e e';have h1:=(hin a ha).2 k e;have h2:=(hu.1.lt k e').1;omega
theorem own_one {lo hi:Nat}{w:World}{u:Value}{L:List Int}(h:Own lo hi w u L):u.oneCell'=true:=by
 obtain⟨_,h2⟩:=h.1;rcases h2 with ⟨rfl,_⟩ | ⟨g,cap,cur,rfl,_⟩ <;> rfl
theorem stepR {ops:Array Oper}{o:Oper}{a:Act}{K:Act->World->Prop}{Q:Exit->Act->World->Prop}{E:Prop}{lo mid:Nat}{wr:World}{v u:Value}{M:List (List Int)}{L:List Int}
  (h:OwnS lo mid wr v M) (hu:Own mid wr.heap.size wr u L) (hlo:lo<=mid) (hmid:mid<=wr.heap.size) (hM:M.length<=1048576) (hgd:o.guard=none) (s x:Operand)
  (ho:o.op=.call { callee:=.builtin .append,args:=#[s,x],argTypes:=#[24,24] }) (hs:a.eval s=v) (hx:a.eval x=.slice (some ⟨wr.heap.size,0,none⟩) 1 1)
  (hK:∀ g cap w1,OwnS lo w1.heap.size w1 (.slice (some ⟨g,0,none⟩) (M.length+1) cap) (M++[L])->(wr.alloc (.cells #[u] 37)).grownBy w1 v.ownBlock->K (a.put o.dst (.slice (some ⟨g,0,none⟩) (M.length+1) cap)) w1) :
  if Region.wanted o (yielded ops a.tmps)=true then Oper.wp Tryz.prog o a (wr.alloc (.cells #[u] 37)) K Q else E:=by
 obtain⟨i0,hi,hz0,hz1,hz2⟩:=info_parts infoSl;obtain⟨D,rfl,hw,hb,hin,hp⟩:=h;rw [List.length_map] at *;refine step_append_lies _ hgd s x 24 ho lo 37 i0 (.slice none 0 0) 1 24 Tryz.underlying24 hi hz0 hz1 hz2 rfl (by decide) v D.length (D.map (·.1)) hs (hw.alloc _) ⟨wr.heap.size,0,none⟩ 1 1 [u] hx rfl ?_ ?_ (by decide) ?_ ?_ ?_ (wr.heap.size+1) (World.size_alloc ..) ?_
 ·intro j y hj
  match j,hj with
  | 0,hj=>simp at hj;subst hj;simp [Addr.add]
 ·intro y hy;simp at hy;subst hy;exact own_one hu
 ·unfold maxLen;omega
 ·omega
 ·simp;omega
 ·intro g cap w1 h1 hg _ _;exact hK g cap w1 (grow hw hin hp hu hlo hmid h1 hg) hg
theorem appendR {ops:Array Oper}{rest:List Oper}{o:Oper}{a:Act}{Q:Exit->Act->World->Prop}{lo mid:Nat}{wr:World}{v u:Value}{M:List (List Int)}{L:List Int}
  (h:OwnS lo mid wr v M) (hu:Own mid wr.heap.size wr u L) (hlo:lo<=mid) (hmid:mid<=wr.heap.size) (hM:M.length<=1048576) (hgd:o.guard=none) (s x:Operand)
  (ho:o.op=.call { callee:=.builtin .append,args:=#[s,x],argTypes:=#[24,24] }) (hs:a.eval s=v) (hx:a.eval x=.slice (some ⟨wr.heap.size,0,none⟩) 1 1)
  (hK:∀ g cap w1,OwnS lo w1.heap.size w1 (.slice (some ⟨g,0,none⟩) (M.length+1) cap) (M++[L])->(wr.alloc (.cells #[u] 37)).grownBy w1 v.ownBlock->wpList Tryz.prog ops Q rest (a.put o.dst (.slice (some ⟨g,0,none⟩) (M.length+1) cap)) w1) :
  wpList Tryz.prog ops Q (o::rest) a (wr.alloc (.cells #[u] 37)):=by
 obtain⟨i0,hi,hz0,hz1,hz2⟩:=info_parts infoSl;obtain⟨D,rfl,hw,hb,hin,hp⟩:=h;rw [List.length_map] at *;refine wpList_append_lies _ hgd s x 24 ho lo 37 i0 (.slice none 0 0) 1 24 Tryz.underlying24 hi hz0 hz1 hz2 rfl (by decide) v D.length (D.map (·.1)) hs (hw.alloc _) ⟨wr.heap.size,0,none⟩ 1 1 [u] hx rfl ?_ ?_ (by decide) ?_ ?_ ?_ (wr.heap.size+1) (World.size_alloc ..) ?_
 ·intro j y hj
  match j,hj with
  | 0,hj=>simp at hj;subst hj;simp [Addr.add]
 ·intro y hy;simp at hy;subst hy;exact own_one hu
 ·unfold maxLen;omega
 ·omega
 ·simp;omega
 ·intro g cap w1 h1 hg _ _;exact hK g cap w1 (grow hw hin hp hu hlo hmid h1 hg) hg
def MidF (w wr:World)(c:Nat)(n:Int)(M:List (List Int))(Bs:List (Nat × Value × Value)):Prop :=
 w.heap.size<=c/\w.grownBy wr none/\(∀ b∈Bs,b.1≠c/\Box 26 wr b.1 b.2.1 b.2.2)/\∃ a cap,Box 26 wr c (.int .i64 n) (.slice a M.length cap)/\OwnS w.heap.size wr.heap.size wr (.slice a M.length cap) M
theorem MidF.kept {w wr w1:World}{c:Nat}{n:Int}{M:List (List Int)}{Bs:List (Nat × Value × Value)}(h:MidF w wr c n M Bs)(g:wr.grownBy w1 none):MidF w w1 c n M Bs:=by
 obtain⟨hc,hg,hB,a,cap,hb,ho⟩:=h;exact⟨hc,grown_trans hg g,fun b hb=>⟨(hB b hb).1,(hB b hb).2.kept g⟩,a,cap,hb.kept g,(ho.kept g).sub (Nat.le_refl _) g.size⟩
theorem MidF.grown {w wr:World}{c:Nat}{n:Int}{M:List (List Int)}{Bs:List (Nat × Value × Value)}(h:MidF w wr c n M Bs):w.grownBy wr none:=h.2.1
theorem MidF.box {w wr:World}{c:Nat}{n:Int}{M:List (List Int)}{Bs:List (Nat × Value × Value)}(h:MidF w wr c n M Bs)(b:Nat)(x y:Value)(hb:(b,x,y)∈Bs):Box 26 wr b x y:=(h.2.2.1 _ hb).2
theorem MidF.step {w wr w2 w1:World}{c:Nat}{n:Int}{M:List (List Int)}{Bs:List (Nat × Value × Value)}{L:List Int}{a:Option Addr}{cap g cap':Nat}{u:Value}(hc:w.heap.size<=c)(hg:w.grownBy wr none)(hB:∀ b∈Bs,b.1≠c/\Box 26 wr b.1 b.2.1 b.2.2)(hb:Box 26 wr c (.int .i64 n) (.slice a M.length cap))(ho:OwnS w.heap.size wr.heap.size wr (.slice a M.length cap) M)
  (g2:wr.grownBy w2 none) (h1:OwnS w.heap.size w1.heap.size w1 (.slice (some ⟨g,0,none⟩) (M.length+1) cap') (M++[L])) (g1:(w2.alloc (.cells #[u] 37)).grownBy w1 (Value.slice a M.length cap).ownBlock) :
  (w1.cell? ⟨c,1,none⟩=some (.slice a M.length cap)/\w1.frozen? ⟨c,1,none⟩=false/\w.grownBy w1 none/\∀ b x y,(b,x,y)∈Bs->Box 26 w1 b x y)/\MidF w (w1.setCell ⟨c,1,none⟩ (.slice (some ⟨g,0,none⟩) (M.length+1) cap')) c n (M++[L]) Bs:=by
 have gA:=qT g2 (sl.qA w2 (.cells #[u] 37) none);have hb2:=hb.kept gA;obtain⟨D,e,hw,hbb,hin,hp⟩:=ho.kept gA;have hb1:=hb2.by g1 (box_ne hw ty1 hb2);have hgA:w.grownBy (w2.alloc (.cells #[u] 37)) none:=grown_trans hg gA;have hg1:w.grownBy w1 none:=⟨g1.os.trans hgA.os,g1.tape.trans hgA.tape,g1.output.trans hgA.output,Nat.le_trans hgA.size g1.size,fun k hk _=>by
  rw [g1.block k (Nat.lt_of_lt_of_le hk hgA.size) (fun e=>by have:=(hw.lt k e.symm).1;omega)];exact hgA.block k hk nofun⟩
 have hB1:∀ b x y,(b,x,y)∈Bs->Box 26 w1 b x y:=by
  intro b x y hb';have hbb:=(hB _ hb').2.kept gA;exact hbb.by g1 (box_ne hw ty1 hbb)
 refine⟨⟨hb1.c1,hb1.f 1,hg1,hB1⟩,hc,cf.grown_set hg1 hc,fun b hb'=>⟨(hB b hb').1,?_⟩,some ⟨g,0,none⟩,cap',?_,?_⟩
 ·exact (hB1 b.1 b.2.1 b.2.2 hb').setO (fun e=>(hB b hb').1 e.symm)
 ·have:=hb1.set1 (.slice (some ⟨g,0,none⟩) (M.length+1) cap');rw [List.length_append];exact this
 ·rw [cf.size_set,List.length_append];exact ownS_set h1 hb1
theorem mk0 (n:Nat)(hn:n<=1048576)(w:World):(Instr.makeSlice 24 (.int .i64 0) (.int .i64 (n:Int))).run Tryz.prog w=.ok (.slice (some ⟨w.heap.size,0,none⟩) 0 n) (w.alloc (.cells (madeCells #[.slice none 0 0] n) 37)):=by
 obtain⟨i0,hi,hz0,hz1,hz2⟩:=info_parts infoSl;have hr:=run_make (P:=Tryz.prog) w 24 37 i0 (.slice none 0 0) Tryz.underlying24 hi hz0 .i64 .i64 0 n (by decide) (by omega) (by rw [hz2];omega) (by omega);rw [hz1,Nat.mul_one] at hr;exact hr
theorem ownS_made (w:World)(n:Nat)(lo:Nat)(hlo:lo<=w.heap.size)(hn:n<=1048576):OwnS lo (w.heap.size+1) (w.alloc (.cells (madeCells #[.slice none 0 0] n) 37)) (.slice (some ⟨w.heap.size,0,none⟩) 0 n) [] :=
 ⟨[],rfl,World.ownsRow_made w _ n hlo (by unfold maxLen;omega) (by rw [size_madeCells,Nat.mul_one]),(fun k e=>by cases e;exact Nat.lt_succ_self _),(fun p hp=>by cases hp),.nil⟩
end gr
namespace app
open css (OwnS own_ne' own_mono infoSl)
open wo (Made)
theorem ints_append (L M:List Int):ints (L++M)=ints L++ints M:=by simp [ints]
theorem made_nil (w:World):Made w (w.alloc (.cells #[] 3)) (.slice (some ⟨w.heap.size,0,none⟩) 0 0) [] :=
 ⟨World.ownsRow_lit w #[] 0 (Nat.le_refl _) (Nat.zero_le _) rfl,sl.qA _ _ _⟩
theorem wp_none {w:World}{o:Oper}{a:Act}{K:Act->World->Prop}{Q:Exit->Act->World->Prop}(s x:Operand)(t:TypeId)(ho:o.op=.call { callee:=.builtin .append,args:=#[s,x],argTypes:=#[t,t] })
  (base:Nat) (e:TypeId) (i:TypeInfo) (size:Nat) (ht:Tryz.prog.underlying t=some (.slice e)) (hi:Tryz.prog.info? e=some i)
  (v:Value) (n:Nat) (xs:List Value) (hs:a.eval s=v) (hown:w.ownsRow base e size v n xs) (hx:a.eval x=.slice none 0 0) (h:K (a.put o.dst v) w):o.wp Tryz.prog a w K Q:=by
 have hrun:=run_append_owned_none (P:=Tryz.prog) (w:=w) base t o.type e i size ht hi v n xs hown;unfold Oper.wp;simp [execOp,ho,resolve,invoke,builtin,hs,hx,hrun,Result.andThen];exact h
theorem wpI {o:Oper}{a:Act}{K:Act->World->Prop}{Q:Exit->Act->World->Prop}{w wr:World}{va vb:Value}{A B:List Int}{lo hi:Nat}
  (hg:w.grownBy wr none) (hA:wr.ownsRow w.heap.size 3 1 va A.length (ints A)) (hB:Own lo hi wr vb B) (hl:A.length+B.length<=4194304) (s x:Operand)
  (ho:o.op=.call { callee:=.builtin .append,args:=#[s,x],argTypes:=#[37,37] }) (hs:a.eval s=va) (hx:a.eval x=vb)
  (h:∀ v' w1,Made w w1 v' (A++B)->wr.grownBy w1 va.ownBlock->K (a.put o.dst v') w1):o.wp Tryz.prog a wr K Q:=by
 obtain⟨i0,hi,hz0,hz1,hz2⟩:=info_parts sl.info3;have hsz:=hg.size;have hB':=hB.1;obtain⟨_,h2⟩:=hB';rcases h2 with ⟨rfl,h0⟩ | ⟨g,cap,cur,rfl,hgb,hh,hn,hm,hsc,ht⟩
 ·have e:B=[]:=List.eq_nil_of_length_eq_zero h0;subst e;refine wp_none s x 37 ho w.heap.size 3 i0 1 Tryz.underlying37 hi va A.length (ints A) hs hA hx ?_;refine h va wr ⟨?_,hg⟩ ⟨rfl,rfl,rfl,Nat.le_refl _,fun _ _ _=>rfl⟩;rw [List.append_nil];exact hA
 ·refine wp_append_own _ s x 37 ho w.heap.size 3 i0 (.int .i64 0) 1 8 Tryz.underlying37 hi hz0 hz1 hz2 rfl (by decide) va A.length (ints A) hs hA ⟨g,0,none⟩ B.length cap (ints B) hx (by rw [sl.ints_length];omega) ?_ ?_ ?_ ?_ ?_ ?_
  ·intro j u hj;rw [Addr.add_lit,Nat.zero_add];have hjl:j<B.length:=by
    have:=(List.getElem?_eq_some_iff.1 hj).1
    rwa [sl.ints_length] at this
   rw [hB.1.cellAt j (by omega)];exact hj
  ·exact ints_oneCell .i64 B
  ·unfold maxLen;omega
  ·omega
  ·exact hsz
  ·intro v' w1 hown' hgrow _;refine h v' w1 ⟨?_,⟨hgrow.os.trans hg.os,hgrow.tape.trans hg.tape,hgrow.output.trans hg.output,Nat.le_trans hsz hgrow.size,fun k hk _=>?_⟩⟩ hgrow
   ·rw [List.length_append,ints_append];exact hown'
   ·rw [hgrow.block k (by omega) (fun e=>by have:=(hA.lt k e.symm).1;omega)];exact hg.block k hk nofun
theorem stepI {ops:Array Oper}{E:Prop}{o:Oper}{a:Act}{K:Act->World->Prop}{Q:Exit->Act->World->Prop}{w wr:World}{va vb:Value}{A B:List Int}{lo hi:Nat}
  (hg:w.grownBy wr none) (hA:wr.ownsRow w.heap.size 3 1 va A.length (ints A)) (hB:Own lo hi wr vb B) (hl:A.length+B.length<=4194304) (hgd:o.guard=none) (s x:Operand)
  (ho:o.op=.call { callee:=.builtin .append,args:=#[s,x],argTypes:=#[37,37] }) (hs:a.eval s=va) (hx:a.eval x=vb)
  (h:∀ v' w1,Made w w1 v' (A++B)->wr.grownBy w1 va.ownBlock->K (a.put o.dst v') w1):if Region.wanted o (yielded ops a.tmps)=true then Oper.wp Tryz.prog o a wr K Q else E:=by
 rw [if_pos (by simp [Region.wanted,hgd])];exact wpI hg hA hB hl s x ho hs hx h
theorem appendI {ops:Array Oper}{rest:List Oper}{o:Oper}{a:Act}{Q:Exit->Act->World->Prop}{w wr:World}{va vb:Value}{A B:List Int}{lo hi:Nat}
  (hg:w.grownBy wr none) (hA:wr.ownsRow w.heap.size 3 1 va A.length (ints A)) (hB:Own lo hi wr vb B) (hl:A.length+B.length<=4194304) (hgd:o.guard=none) (s x:Operand)
  (ho:o.op=.call { callee:=.builtin .append,args:=#[s,x],argTypes:=#[37,37] }) (hs:a.eval s=va) (hx:a.eval x=vb)
  (h:∀ v' w1,Made w w1 v' (A++B)->wr.grownBy w1 va.ownBlock->wpList Tryz.prog ops Q rest (a.put o.dst v') w1):wpList Tryz.prog ops Q (o::rest) a wr :=
 wpList_plain hgd fun K hK=>wpI hg hA hB hl s x ho hs hx fun v' w1 m g=>hK _ _ (h v' w1 m g)
theorem wpJ {o:Oper}{a:Act}{K:Act->World->Prop}{Q:Exit->Act->World->Prop}{wr:World}{va vb:Value}{A B:List (List Int)}{lo mid mid' hi:Nat}
  (hA:OwnS lo mid wr va A) (hB:OwnS mid' hi wr vb B) (hm:mid<=mid') (hlo:lo<=mid') (hh:hi<=wr.heap.size) (hls:lo<=wr.heap.size) (hl:A.length+B.length<=1048576) (s x:Operand)
  (ho:o.op=.call { callee:=.builtin .append,args:=#[s,x],argTypes:=#[24,24] }) (hs:a.eval s=va) (hx:a.eval x=vb)
  (h:∀ v' w1,OwnS lo w1.heap.size w1 v' (A++B)->wr.grownBy w1 va.ownBlock->K (a.put o.dst v') w1):o.wp Tryz.prog a wr K Q:=by
 obtain⟨i0,hi0,hz0,hz1,hz2⟩:=info_parts infoSl;have hA0:=hA;obtain⟨D,rfl,hw,hb,hin,hp⟩:=hA;obtain⟨E,rfl,hw',hb',hin',hp'⟩:=hB;simp only [List.length_map] at hl;have key:∀ v' w1,w1.ownsRow lo 37 1 v' (D.length+E.length) (D.map (·.1)++E.map (·.1))->wr.grownBy w1 va.ownBlock->K (a.put o.dst v') w1:=by
  intro v' w1 hown hgrow;have sz:=hgrow.size;refine h v' w1 ⟨D++E,by simp,?_,fun k e=>(hown.lt k e).2,?_,?_⟩ hgrow
  ·rw [List.length_append,List.map_append];exact hown
  ·intro p hp'';rw [List.mem_append] at hp'';rcases hp'' with hp'' | hp''
   ·exact⟨(hin p hp'').1.kept hgrow (own_ne' hw (hin p hp'').1),fun k e=>by have:=((hin p hp'').1.lt k e).2;omega⟩
   ·exact⟨(own_mono (hin' p hp'').1 hlo).kept hgrow (own_ne' hw (hin' p hp'').1),fun k e=>by have:=((hin' p hp'').1.lt k e).2;omega⟩
  ·rw [List.pairwise_append];refine⟨hp,hp',fun p hp1 q hq=>?_⟩;intro k e e';have h1:=(hin p hp1).2 k e;have h2:=((hin' q hq).1.lt k e').1;omega
 have hw2:=hw';obtain⟨_,h2⟩:=hw';rcases h2 with ⟨rfl,h0⟩ | ⟨g,cap,cur,rfl,hgb,hhh,hn,hmm,hsc,ht⟩
 ·have e:E=[]:=List.eq_nil_of_length_eq_zero h0;subst e;refine wp_none s x 24 ho lo 37 i0 1 Tryz.underlying24 hi0 va D.length (D.map (·.1)) hs hw hx ?_;refine key va wr ?_ ⟨rfl,rfl,rfl,Nat.le_refl _,fun _ _ _=>rfl⟩
  simpa using hw
 ·refine wp_append_own _ s x 24 ho lo 37 i0 (.slice none 0 0) 1 24 Tryz.underlying24 hi0 hz0 hz1 hz2 rfl (by decide) va D.length (D.map (·.1)) hs hw ⟨g,0,none⟩ E.length cap (E.map (·.1)) hx (by rw [List.length_map];omega) ?_ ?_ ?_ ?_ ?_ ?_
  ·intro j u hj;rw [Addr.add_lit,Nat.zero_add];have hjl:j<E.length:=by
    have:=(List.getElem?_eq_some_iff.1 hj).1
    rwa [List.length_map] at this
   rw [hw2.cellAt j (by omega)];exact hj
  ·intro u hu;rw [List.mem_map] at hu;obtain⟨p,hp1,rfl⟩:=hu;exact gr.own_one (hin' p hp1)
  ·unfold maxLen;omega
  ·omega
  ·exact hls
  ·intro v' w1 hown' hgrow _;exact key v' w1 hown' hgrow
theorem own_at {lo hi:Nat}{w:World}{v:Value}{LL:List (List Int)}(h:OwnS lo hi w v LL)(k:Nat)(hk:k<LL.length) :
  ∃ g cap u,v=.slice (some ⟨g,0,none⟩) LL.length cap/\g<hi/\w.cell? ⟨g,k,none⟩=some u/\Own lo hi w u (LL.getD k []):=by
 obtain⟨D,rfl,hw,hb,hin,hp⟩:=h;rw [List.length_map] at *;have hw':=hw;obtain⟨_,h2⟩:=hw;rcases h2 with ⟨rfl,h0⟩ | ⟨g,cap,cur,rfl,_⟩
 ·omega
 ·refine⟨g,cap,D[k].1,rfl,hb g rfl,?_,?_⟩
  ·rw [hw'.cellAt k (by omega)];simp [hk]
  ·rw [css.map2_getD hk];exact hin _ (List.getElem_mem hk)
theorem grown_app {w w1 w2:World}{o:Obj}{v:Value}{n:Nat}{xs:List Value}{t:TypeId}(g:w.grownBy w1 none)(hw:w1.ownsRow w.heap.size t 1 v n xs)(g1:(w1.alloc o).grownBy w2 v.ownBlock):w.grownBy w2 none:=by
 have hgA:w.grownBy (w1.alloc o) none:=grown_trans g (sl.qA w1 o none);exact⟨g1.os.trans hgA.os,g1.tape.trans hgA.tape,g1.output.trans hgA.output,Nat.le_trans hgA.size g1.size,fun k hk _=>by
  rw [g1.block k (Nat.lt_of_lt_of_le hk hgA.size) (fun e=>by have:=(hw.lt k e.symm).1;omega)];exact hgA.block k hk nofun⟩
theorem grown_appS {lo hi:Nat}{w w1 w2:World}{o:Obj}{v:Value}{LL:List (List Int)}(g:w.grownBy w1 none)(h:OwnS w.heap.size hi w1 v LL)(g1:(w1.alloc o).grownBy w2 v.ownBlock):w.grownBy w2 none:=by
 obtain⟨D,rfl,hw,_⟩:=h;exact grown_app g hw g1
theorem grown_joinS {hi:Nat}{w w1 w2:World}{v:Value}{LL:List (List Int)}(g:w.grownBy w1 none)(h:OwnS w.heap.size hi w1 v LL)(g1:w1.grownBy w2 v.ownBlock):w.grownBy w2 none:=by
 obtain⟨D,rfl,hw,_⟩:=h;exact⟨g1.os.trans g.os,g1.tape.trans g.tape,g1.output.trans g.output,Nat.le_trans g.size g1.size,fun k hk _=>by
  rw [g1.block k (Nat.lt_of_lt_of_le hk g.size) (fun e=>by have:=(hw.lt k e.symm).1;omega)];exact g.block k hk nofun⟩
end app
namespace ct
open ok (cnfB)
open tr (cnfT)
open cnt (cntR asg)
attribute [local go_sem ↓] Go.wp_at_zero Go.wp_at_succ
def countN (m:Nat)(LL:List (List Int)):Nat:=cntR (2 ^ m) (fun k=>cnfT (asg m k []) LL)
def countI (n:Int)(LL:List (List Int)):Int:=if cnfB n LL && decide (n<=14) then (countN n.toNat LL:Int) else -1
end ct
end Go.Proofs.YtddmmoehlabkiaaGreatDoor
