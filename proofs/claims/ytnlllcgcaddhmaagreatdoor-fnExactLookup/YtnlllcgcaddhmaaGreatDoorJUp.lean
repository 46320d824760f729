/- Caches in which one is found or put, as plain mathematics: which entries stand on the shelf then; no condition. -/
import Derived.Test.YtnlllcgcaddhmaaGreatDoorJUe
import Derived.Maps.AppendAt
import Derived.Test.YtnlllcgcaddhmaaGreatDoorJUd
namespace Go.Proofs.YtnlllcgcaddhmaaGreatDoor.ua
open Go.ChangeShapes Go.WideShapes Go.ChangeAt Go.RowKit Go.Maps
open sl (hide unhide)
set_option linter.unusedVariables false
def oth (d:ByteArray)(k:Kn):Bool:=!(k.dg.data.toList == d.data.toList)
theorem oth_iff {d:ByteArray}{k:Kn}:oth d k=true↔k.dg≠d:=by
 unfold oth
 rw [Bool.not_eq_true',←Bool.not_eq_true,dg_eq]
def rest (KK:List Kn)(d:ByteArray):List Kn:=KK.filter (oth d)
def putL (room:Int)(KK:List Kn)(k:Kn):List Kn:=if room<((rest KK k.dg).length:Int)+1 then (rest KK k.dg++[k]).drop 1 else rest KK k.dg++[k]
theorem getD_snoc (KK:List Kn)(k:Kn)(i:Nat)(h:i<KK.length):(KK++[k]).getD i kz=KK.getD i kz:=by simp [List.getElem?_append,h]
theorem getD_last (KK:List Kn)(k:Kn):(KK++[k]).getD KK.length kz=k:=by simp
theorem told_old {KK:List Kn}(hd:Dist KK KK.length)(k:Kn)(i:Nat)(hi:i<KK.length)(hne:(KK.getD i kz).dg≠k.dg):Told ((dmAt KK KK.length).put (key k.dg) (num KK.length)) (KK.getD i kz).dg (i:Int) true:=by
 refine⟨?_,?_⟩
 ·rw [atKey_put_other (fun q=>hne (key_inj q)),at_dm KK (num 0) KK.length hd i hi]
  rfl
 ·rw [has_put_other (fun q=>hne (key_inj q))]
  exact (has_dm KK _ _).2 ⟨i,hi,rfl⟩
theorem told_new (KK:List Kn)(k:Kn):Told ((dmAt KK KK.length).put (key k.dg) (num KK.length)) k.dg (KK.length:Int) true :=
 ⟨atKey_put_same (dm_tidy KK _).isMap (key_ok _) _ _,has_put_same (dm_tidy KK _).isMap (key_ok _) _⟩
def S1 (KK:List Kn)(k:Kn)(i:Nat):Bool:=if i<KK.length then oth k.dg (KK.getD i kz) else true
theorem told1 {KK:List Kn}(hd:Dist KK KK.length)(k:Kn)(i:Nat)(hi:i<(KK++[k]).length):∃ c b,Told ((dmAt KK KK.length).put (key k.dg) (num KK.length)) ((KK++[k]).getD i kz).dg c b∧S1 KK k i=(b && (c == (i:Int))):=by
 rw [List.length_append,List.length_singleton] at hi
 unfold S1
 by_cases h:i<KK.length
 ·rw [getD_snoc KK k i h,if_pos h]
  by_cases e:(KK.getD i kz).dg=k.dg
  ·refine⟨_,_,by rw [e];exact told_new KK k,?_⟩
   have e1:oth k.dg (KK.getD i kz)=false:=by
    cases q:oth k.dg (KK.getD i kz)
    ·rfl
    ·exact absurd e (oth_iff.1 q)
   have e2:((KK.length:Int) == (i:Int))=false:=beq_eq_false_iff_ne.2 (by omega)
   rw [e1,e2]
   rfl
  ·refine⟨_,_,told_old hd k i h e,?_⟩
   rw [oth_iff.2 e]
   simp
 ·obtain rfl:i=KK.length:=by omega
  rw [getD_last,if_neg h]
  exact⟨_,_,told_new KK k,by simp⟩
theorem filt_filter (S:Nat→Bool)(E:List Kn)(p:Kn→Bool):∀ n,n≤E.length→(∀ i,i<n→S i=p (E.getD i kz))→filt S E n=(E.take n).filter p
 | 0,_,_=>rfl
 | n+1,hn,h=>by
  unfold filt
  rw [filt_filter S E p n (by omega) (fun i hi=>h i (by omega)),h n (by omega),take_snoc E n (by omega),List.filter_append,List.filter_cons,List.filter_nil]
theorem filt1 (KK:List Kn)(k:Kn):filt (S1 KK k) (KK++[k]) (KK++[k]).length=rest KK k.dg++[k]:=by
 have hl:(KK++[k]).length=KK.length+1:=by rw [List.length_append];rfl
 rw [hl]
 unfold filt
 rw [filt_filter (S1 KK k) (KK++[k]) (oth k.dg) KK.length (by omega) (fun i hi=>by rw [getD_snoc KK k i hi];exact if_pos hi),getD_last]
 have:S1 KK k KK.length=true:=if_neg (by omega)
 rw [this,List.take_append_of_le_length (Nat.le_refl _),List.take_length]
 rfl
theorem rest_new {KK:List Kn}{d:ByteArray}(h:∀ i,i<KK.length→(KK.getD i kz).dg≠d):rest KK d=KK:=by
 unfold rest
 rw [List.filter_eq_self]
 intro x hx
 obtain⟨i,hi,rfl⟩:=List.getElem_of_mem hx
 have:=h i hi
 rw [show KK.getD i kz=KK[i] by simp [hi]] at this
 exact oth_iff.2 this
theorem erase_filter {KK:List Kn}{d:ByteArray}(hd:Dist KK KK.length)(j:Nat)(hj:j<KK.length)(e:(KK.getD j kz).dg=d):rest KK d=KK.take j++KK.drop (j+1):=by
 unfold rest
 have hg:∀ i (h:i<KK.length),KK.getD i kz=KK[i]:=fun i h=>by simp [h]
 conv=>lhs;rw [←List.take_append_drop j KK,List.drop_eq_getElem_cons hj]
 rw [List.filter_append,List.filter_cons]
 have e0:oth d KK[j]=false:=by
  cases q:oth d KK[j]
  ·rfl
  ·exact absurd (by rw [←hg j hj];exact e) (oth_iff.1 q)
 rw [e0,if_neg (by simp)]
 congr 1
 ·rw [List.filter_eq_self]
  intro x hx
  obtain⟨i,hi,rfl⟩:=List.getElem_of_mem hx
  rw [List.length_take] at hi
  rw [List.getElem_take]
  refine oth_iff.2 (fun q=>?_)
  rw [←hg i (by omega)] at q
  exact hd i j (by omega) hj (q.trans e.symm)
 ·rw [List.filter_eq_self]
  intro x hx
  obtain⟨i,hi,rfl⟩:=List.getElem_of_mem hx
  rw [List.length_drop] at hi
  rw [List.getElem_drop]
  refine oth_iff.2 (fun q=>?_)
  rw [←hg (j+1+i) (by omega)] at q
  exact hd j (j+1+i) (by omega) (by omega) (e.trans q.symm)
theorem rest_len {KK:List Kn}{d:ByteArray}(hd:Dist KK KK.length):(rest KK d).length+(if Maps.has (dmAt KK KK.length) (key d) then 1 else 0)=KK.length:=by
 by_cases h:Maps.has (dmAt KK KK.length) (key d)=true
 ·obtain⟨j,hj,e⟩:=(has_dm KK d _).1 h
  rw [h,if_pos rfl,erase_filter hd j hj e,List.length_append,List.length_take,List.length_drop]
  omega
 ·rw [if_neg h,rest_new]
  ·rfl
  ·intro i hi e
   exact h ((has_dm KK d _).2 ⟨i,hi,e⟩)
theorem size1 {KK:List Kn}(hd:Dist KK KK.length)(k:Kn):Maps.size ((dmAt KK KK.length).put (key k.dg) (num KK.length))=(rest KK k.dg).length+1:=by
 rw [size_put (dm_tidy KK _),size_dm KK _ hd]
 have:=rest_len (d:=k.dg) hd
 split <;> simp_all
theorem full_new {KK:List Kn}(hd:Dist KK KK.length){room:Int}(k:Kn)(hr:(KK.length:Int)≤room)(h:room<((rest KK k.dg).length:Int)+1):(∀ i,i<KK.length→(KK.getD i kz).dg≠k.dg)∧rest KK k.dg=KK∧room=(KK.length:Int):=by
 have l:=rest_len (d:=k.dg) hd
 have hh:¬ Maps.has (dmAt KK KK.length) (key k.dg)=true:=by
  intro q
  rw [if_pos q] at l
  omega
 have hn:∀ i,i<KK.length→(KK.getD i kz).dg≠k.dg:=fun i hi e=>hh ((has_dm KK _ _).2 ⟨i,hi,e⟩)
 have e:=rest_new hn
 rw [e] at h
 exact⟨hn,e,by omega⟩
def d0 (KK:List Kn)(k:Kn):ByteArray:=((KK++[k]).getD 0 kz).dg
theorem told0 {KK:List Kn}(hd:Dist KK KK.length)(k:Kn)(hn:∀ i,i<KK.length→(KK.getD i kz).dg≠k.dg):Told ((dmAt KK KK.length).put (key k.dg) (num KK.length)) (d0 KK k) 0 true:=by
 unfold d0
 by_cases h:0<KK.length
 ·rw [getD_snoc KK k 0 h]
  exact told_old hd k 0 h (hn 0 h)
 ·obtain rfl:KK=[]:=List.eq_nil_of_length_eq_zero (by omega)
  exact told_new [] k
theorem dist_snoc {KK:List Kn}(hd:Dist KK KK.length)(k:Kn)(hn:∀ i,i<KK.length→(KK.getD i kz).dg≠k.dg):Dist (KK++[k]) (KK++[k]).length:=by
 intro i j hij hj
 rw [List.length_append,List.length_singleton] at hj
 rw [getD_snoc KK k i (by omega)]
 by_cases h:j<KK.length
 ·rw [getD_snoc KK k j h]
  exact hd i j hij h
 ·obtain rfl:j=KK.length:=by omega
  rw [getD_last]
  exact hn i hij
theorem told2 {KK:List Kn}(hd:Dist KK KK.length)(k:Kn)(hn:∀ i,i<KK.length→(KK.getD i kz).dg≠k.dg)(i:Nat)(hi:i<(KK++[k]).length) :
  ∃ c b,Told (((dmAt KK KK.length).put (key k.dg) (num KK.length)).del (key (d0 KK k))) ((KK++[k]).getD i kz).dg c b∧decide (0<i)=(b && (c == (i:Int))):=by
 by_cases h0:i=0
 ·subst h0
  refine⟨0,false,⟨?_,?_⟩,rfl⟩
  ·exact atKey_del_same _
  ·exact has_del_same
 ·obtain⟨c,b,ht,hs⟩:=told1 hd k i hi
  have hne:key ((KK++[k]).getD i kz).dg≠key (d0 KK k):=fun q=>dist_snoc hd k hn 0 i (by omega) hi (key_inj q).symm
  refine⟨c,b,⟨?_,?_⟩,?_⟩
  ·rw [atKey_del_other hne]
   exact ht.1
  ·rw [has_del_other hne]
   exact ht.2
  ·rw [←hs,decide_eq_true (by omega)]
   unfold S1
   split
   ·exact (oth_iff.2 (hn i (by assumption))).symm
   ·rfl
theorem filt2 (E:List Kn):∀ n,n≤E.length→filt (fun i=>decide (0<i)) E n=(E.take n).drop 1
 | 0,_=>rfl
 | 1,h=>by
  rw [take_snoc E 0 (by omega)]
  rfl
 | n+2,h=>by
  unfold filt
  rw [filt2 E (n+1) (by omega),take_snoc E (n+1) (by omega)]
  simp only [Nat.zero_lt_succ,decide_true,if_true]
  rw [List.drop_append_of_le_length (by rw [List.length_take];omega)]
theorem size2 {KK:List Kn}(hd:Dist KK KK.length)(k:Kn)(hn:∀ i,i<KK.length→(KK.getD i kz).dg≠k.dg):Maps.size (((dmAt KK KK.length).put (key k.dg) (num KK.length)).del (key (d0 KK k)))=KK.length:=by
 have q:=size_del (k:=key (d0 KK k)) ((dm_tidy KK KK.length).put (key_ok k.dg) (num KK.length))
 rw [(told0 hd k hn).2,if_pos rfl,size1 hd k,rest_new hn] at q
 omega
end Go.Proofs.YtnlllcgcaddhmaaGreatDoor.ua
namespace Go.Proofs.YtnlllcgcaddhmaaGreatDoor.ua
open Go.ChangeShapes Go.WideShapes Go.ChangeAt Go.RowKit Go.Maps Go.MuLone
open sl (Sl Own ints marks hide unhide ret_int ret_bool grown_refl grown_trans grown_drewN below_of of_below)
open css (Outs outs_trans outs_none outs_by outs_refl own_mono own_sub own_outs own_kind)
open yb (Box4)
open cf (Box)
set_option linter.unusedVariables false
theorem ret_find {fn:Func}{p p2 u:Tmp}{tmps:Array Value}{w:World}{c c2:Nat}{x y a b q z:Value}(h:fn.results=#[.cell p 30,.cell p2 36,.tmp u])(hp:tmps.getD p undef=.pointer (some ⟨c,0,none⟩))(hp2:tmps.getD p2 undef=.pointer (some ⟨c2,0,none⟩))(hb:Box 30 w c x y)(hb2:Box4 36 w c2 a b q z) :
  (results fn tmps).run Tryz.prog w=.ok (.tuple #[.agg #[x,y],.agg #[a,b,q,z],tmps.getD u undef]) w:=by
 have e:(results fn tmps).run Tryz.prog w=((asAddr (tmps.getD p undef)).run Tryz.prog w).andThen fun a w₁=>((loadVar 30 a).run Tryz.prog w₁).andThen fun v w₂=>((asAddr (tmps.getD p2 undef)).run Tryz.prog w₂).andThen fun a2 w₃=>((loadVar 36 a2).run Tryz.prog w₃).andThen fun v2 w₄=>.ok (.tuple #[v,v2,tmps.getD u undef]) w₄:=by
  simp only [results,h]
  simp [Sem.run_bind,Result.andThen]
 rw [e,hp]
 simp only [asAddr,Sem.run_pure,Result.andThen_ok]
 rw [run_loadVar_row w c 30 30 #[x,y] (0,0) _ hb Tryz.underlying30 rfl sizeC]
 simp only [Result.andThen_ok,hp2,Sem.run_pure]
 rw [run_loadVar_row w c2 36 36 #[a,b,q,z] (0,0) _ hb2 Tryz.underlying36 rfl sizeK]
 rfl
def ent (KK:List Kn)(d:ByteArray):Kn:=(KK.find? (fun k=>!oth d k)).getD kz
theorem ent_at {KK:List Kn}{d:ByteArray}(hd:Dist KK KK.length)(j:Nat)(hj:j<KK.length)(e:(KK.getD j kz).dg=d):ent KK d=KK.getD j kz:=by
 have hg:∀ i (h:i<KK.length),KK.getD i kz=KK[i]:=fun i h=>by simp [h]
 unfold ent
 cases h:KK.find? (fun k=>!oth d k) with
 | none =>
  have q:=List.find?_eq_none.1 h KK[j] (List.getElem_mem hj)
  simp only [Bool.not_eq_true',Bool.not_eq_false] at q
  exact absurd (by rw [←hg j hj];exact e) (oth_iff.1 q)
 | some x =>
  have h1:=List.find?_some h
  obtain⟨i,hi,rfl⟩:=List.getElem_of_mem (List.mem_of_find?_eq_some h)
  have h2:(KK.getD i kz).dg=d:=by
   rw [hg i hi]
   refine Classical.byContradiction fun q=>?_
   rw [oth_iff.2 q] at h1
   cases h1
  show KK[i]=_
  rw [←hg i hi]
  rcases Nat.lt_trichotomy i j with q | q | q
  ·exact absurd (h2.trans e.symm) (hd i j q hj)
  ·rw [q]
  ·exact absurd (e.trans h2.symm) (hd j i q hi)
def fndB (room:Int)(KK:List Kn)(d:ByteArray):Bool:=okC room KK && !newTo KK d KK.length
def fndK (room:Int)(KK:List Kn)(d:ByteArray):Kn:=if fndB room KK d then ent KK d else kz
def fndL (room:Int)(KK:List Kn)(d:ByteArray):List Kn:=if fndB room KK d then rest KK d++[ent KK d] else KK
def FindE (w:World)(room:Int)(KK:List Kn)(d:ByteArray)(e:Ending)(w':World):Prop:=∃ u v mid,e=.returned (.tuple #[.agg #[.int .i64 room,u],.agg #[.string (fndK room KK d).dg,.bool (fndK room KK d).sat,v,.int .i64 (fndK room KK d).cost],.bool (fndB room KK d)])∧w.heap.size≤mid∧mid≤w'.heap.size∧Own w.heap.size mid w' v (fndK room KK d).vals∧OwnK mid w'.heap.size w' u (fndL room KK d)∧w.grownBy w' none
theorem okC_parts {room:Int}{KK:List Kn}(h:okC room KK=true):0≤room∧room≤50∧(KK.length:Int)≤room∧Dist KK KK.length:=by
 unfold okC at h
 simp only [Bool.and_eq_true,decide_eq_true_eq] at h
 exact⟨h.1.1.1,h.1.1.2,h.1.2,okTo_dist KK _ h.2⟩
theorem own_none (lo hi:Nat)(w:World):Own lo hi w (.slice none 0 0) []:=⟨World.ownsRow_nil ..,fun k e=>by cases e⟩
theorem getD_out (E:List Kn)(i:Nat)(h:E.length≤i):E.getD i kz=kz:=by simp [h]
theorem put6 {w:World}{c:Nat}{x y a b q z:Value}(R:Box 30 w c x y)(Q:Box4 36 w (c+1) a b q z)(x' y' a' b' q' z':Value) :
  Box 30 ((((((w.setCell ⟨c,0,none⟩ x').setCell ⟨c,1,none⟩ y').setCell ⟨c+1,0,none⟩ a').setCell ⟨c+1,1,none⟩ b').setCell ⟨c+1,2,none⟩ q').setCell ⟨c+1,3,none⟩ z') c x' y' ∧
  Box4 36 ((((((w.setCell ⟨c,0,none⟩ x').setCell ⟨c,1,none⟩ y').setCell ⟨c+1,0,none⟩ a').setCell ⟨c+1,1,none⟩ b').setCell ⟨c+1,2,none⟩ q').setCell ⟨c+1,3,none⟩ z') (c+1) a' b' q' z' ∧
  Outs c (c+2) w ((((((w.setCell ⟨c,0,none⟩ x').setCell ⟨c,1,none⟩ y').setCell ⟨c+1,0,none⟩ a').setCell ⟨c+1,1,none⟩ b').setCell ⟨c+1,2,none⟩ q').setCell ⟨c+1,3,none⟩ z') ∧
  ((((((w.setCell ⟨c,0,none⟩ x').setCell ⟨c,1,none⟩ y').setCell ⟨c+1,0,none⟩ a').setCell ⟨c+1,1,none⟩ b').setCell ⟨c+1,2,none⟩ q').setCell ⟨c+1,3,none⟩ z').heap.size=w.heap.size:=by
 have o1:∀ (v:World) i u,Outs c (c+2) v (v.setCell ⟨c,i,none⟩ u):=fun v i u=>outs_by (sl.grown_setCell v c i u) (fun k e=>by cases e;omega)
 have o2:∀ (v:World) i u,Outs c (c+2) v (v.setCell ⟨c+1,i,none⟩ u):=fun v i u=>outs_by (sl.grown_setCell v (c+1) i u) (fun k e=>by cases e;omega)
 refine⟨?_,?_,?_,?_⟩
 ·exact ((((R.set0 x').set1 y').setO (d:=c+1) (by omega)).setO (d:=c+1) (by omega)).setO (d:=c+1) (by omega) |>.setO (d:=c+1) (by omega)
 ·exact ((Q.setO (d:=c) (by omega)).setO (d:=c) (by omega)).setA _ _ _ _
 ·exact outs_trans (outs_trans (outs_trans (outs_trans (outs_trans (o1 _ _ _) (o1 _ _ _)) (o2 _ _ _)) (o2 _ _ _)) (o2 _ _ _)) (o2 _ _ _)
 ·simp only [cf.size_set]
theorem grown_outs {w w1 w2:World}{lo hi:Nat}(g:w.grownBy w1 none)(o:Outs lo hi w1 w2)(h:w.heap.size≤lo):w.grownBy w2 none :=
 ⟨o.os.trans g.os,o.tape.trans g.tape,o.output.trans g.output,Nat.le_trans g.size o.size,fun k hk _=>(o.block k (Nat.lt_of_lt_of_le hk g.size) (by omega)).trans (g.block k hk (fun e=>by cases e))⟩
set_option maxRecDepth 10000 in
set_option maxHeartbeats 4000000 in
theorem findCacheNo (v:Value)(room:Int)(KK:List Kn)(d:ByteArray)(w:World)(hn:tot KK≤1048576)(hd:d.size≤maxLen)(hv:VKns w v KK)(hb:fndB room KK d=false) :
  Calls Tryz.prog 30 #[.agg #[.int .i64 room,v],.string d] w fun e w'=>FindE w room KK d e w':=by
 have h1:=Nat.le_trans (tot_len KK) hn
 have h2:=fun i=>Nat.le_trans (tot_vals KK i) hn
 have h3:∀ i,(KK.getD i kz).dg.size≤maxLen:=fun i=>Nat.le_trans (tot_dg KK i) (Nat.le_trans hn (by decide))
 have HK:Hid (fndK room KK d=kz):=by show _=_;unfold fndK;rw [hb];rfl
 have HL:Hid (fndL room KK d=KK):=by show _=_;unfold fndL;rw [hb];rfl
 have HB:=hide hb
 obtain⟨a,cap,rfl⟩:=hv.len
 obtain⟨W1,hW1⟩:∃ W1,W1=((w.alloc (.cells #[.int .i64 room,.slice a KK.length cap] 30)).alloc (.cells #[.int .i64 0,.slice none 0 0] 30)).alloc (.cells #[.string ⟨#[]⟩,.bool false,.slice none 0 0,.int .i64 0] 36):=⟨_,rfl⟩
 have g1:w.grownBy W1 none:=by rw [hW1];exact grown_trans (grown_trans (World.grownBy_alloc _ _ _) (World.grownBy_alloc _ _ _)) (World.grownBy_alloc _ _ _)
 have s1:W1.heap.size=w.heap.size+1+1+1:=by rw [hW1];simp only [World.size_alloc]
 have B1:Box 30 W1 w.heap.size (.int .i64 room) (.slice a KK.length cap):=by rw [hW1];exact ((Box.new _ _ _ _).kept (World.grownBy_alloc _ _ none)).kept (World.grownBy_alloc _ _ none)
 have R1:Box 30 W1 (w.heap.size+1) (.int .i64 0) (.slice none 0 0):=by
  rw [hW1]
  have:=(Box.new 30 (w.alloc (.cells #[.int .i64 room,.slice a KK.length cap] 30)) (.int .i64 0) (.slice none 0 0)).kept (World.grownBy_alloc _ (.cells #[.string ⟨#[]⟩,.bool false,.slice none 0 0,.int .i64 0] 36) none)
  rw [World.size_alloc] at this
  exact this
 have Q1:Box4 36 W1 (w.heap.size+1+1) (.string ⟨#[]⟩) (.bool false) (.slice none 0 0) (.int .i64 0):=by
  rw [hW1]
  have:=Box4.new 36 ((w.alloc (.cells #[.int .i64 room,.slice a KK.length cap] 30)).alloc (.cells #[.int .i64 0,.slice none 0 0] 30)) (.string ⟨#[]⟩) (.bool false) (.slice none 0 0) (.int .i64 0)
  rw [World.size_alloc,World.size_alloc] at this
  exact this
 have CS:=hide (shelfOf (.slice a KK.length cap) room KK W1 h1 h3 (hv.kept g1))
 have CC:=hide (fun w2 (g:W1.grownBy w2 none)=>copyCache (.slice a KK.length cap) room KK w2 h1 h2 (hv.kept (grown_trans (r:=none) g1 g)))
 have HG:=hide g1
 have HB1:=hide B1
 have HR1:=hide R1
 have HQ1:=hide Q1
 have b0:=B1.c0
 have b1:=B1.c1
 rw [hW1] at b0 b1
 clear g1 B1 R1 Q1 hv h1 h2 h3 hb
 go_enter Tryz.func30,Tryz.ntmps30
 go_upto_region 1 with fail
 rw [←hW1] at b0 b1 ⊢
 clear hW1
 go_wp2_with fail
 refine (unhide CS).mono ?_;rintro e w2 ⟨s,bm,room',v',E,D,rfl,S2,hy,hno⟩
 have hT:∃ c,Told D d c false:=by
  cases hok:okC room KK
  ·rw [hno hok]
   exact⟨0,rfl,rfl⟩
  ·obtain⟨rfl,rfl,rfl⟩:=hy hok
   obtain⟨c,b,_,ht⟩:=look S2.map hd
   have:b=false:=by
    rw [←ht.2,newTo_dm]
    have:=unhide HB
    unfold fndB at this
    rw [hok] at this
    simpa using this
   rw [this] at ht
   exact⟨c,ht⟩
 obtain⟨c,hT⟩:=hT
 have CF:=hide (findNo s bm room' v' E D W1 w2 d c S2 hd hT)
 clear b0 b1 CS S2 hy hno hT
 go_wp2_with fail
 refine (unhide CF).mono ?_;rintro e w3 ⟨rfl,S3⟩
 obtain⟨W4,hW4⟩:∃ W4,W4=w3.alloc (.cells #[.string ⟨#[]⟩,.bool false,.slice none 0 0,.int .i64 0] 36):=⟨_,rfl⟩
 have g4:W1.grownBy W4 none:=by rw [hW4];exact grown_trans S3.g (World.grownBy_alloc _ _ _)
 have C4:=hide (unhide CC W4 g4)
 have G4:=hide (grown_trans (r:=none) (unhide HG) g4)
 have B4:=(unhide HB1).kept g4
 have R4:=hide ((unhide HR1).kept g4)
 have Q4:=hide ((unhide HQ1).kept g4)
 have z4:=g4.size
 have b0:=B4.c0
 have b1:=B4.c1
 clear g4 B4 CC CF S3 HB1 HR1 HQ1
 go_upto_region 3 with fail
 rw [←hW4]
 clear hW4
 generalize w3.heap.size=kb at *
 go_wp2_with fail
 refine (unhide C4).mono ?_;rintro e w5 ⟨u5,rfl,o5,g5⟩
 obtain⟨ua,uc,rfl⟩:=o5.len
 have G5:=hide (grown_trans (r:=none) (unhide G4) g5)
 have R5:=hide ((unhide R4).kept g5)
 have Q5:=hide ((unhide Q4).kept g5)
 have O5:=hide o5
 have z5:=g5.size
 clear g5 o5 C4 G4 R4 Q4 b0 b1
 have r0:=(unhide R5).c0
 have r1:=(unhide R5).c1
 have rf0:=(unhide R5).f 0
 have rf1:=(unhide R5).f 1
 have q0:=(unhide Q5).c0
 have q1:=(unhide Q5).c1
 have q2:=(unhide Q5).c2
 have q3:=(unhide Q5).c3
 have qf0:=(unhide Q5).f 0
 have qf1:=(unhide Q5).f 1
 have qf2:=(unhide Q5).f 2
 have qf3:=(unhide Q5).f 3
 go_wp2_with fail
 (try simp only [Exit.inBlock,Exit.then])
 obtain⟨RR,QQ,gO,sz⟩:=put6 (unhide R5) (unhide Q5) (.int .i64 room) (.slice ua KK.length uc) (.string ⟨#[]⟩) (.bool false) (.slice none 0 0) (.int .i64 0)
 refine bodyPost_ret (ret_find rfl rfl rfl RR QQ) rfl ⟨_,_,w.heap.size,by rw [unhide HK,unhide HB];rfl,Nat.le_refl _,by rw [sz];exact (unhide G5).size,by rw [unhide HK];exact own_none _ _ _,?_,?_⟩
 ·rw [unhide HL,sz]
  exact ((unhide O5).outs gO (.inr (by omega))).sub (by omega) (Nat.le_refl _)
 ·exact grown_outs (unhide G5) gO (by omega)
set_option maxRecDepth 10000 in
set_option maxHeartbeats 4000000 in
theorem findCacheYes (v:Value)(room:Int)(KK:List Kn)(d:ByteArray)(w:World)(hn:tot KK≤1048576)(hd:d.size≤maxLen)(hv:VKns w v KK)(hb:fndB room KK d=true) :
  Calls Tryz.prog 30 #[.agg #[.int .i64 room,v],.string d] w fun e w'=>FindE w room KK d e w':=by
 have h1:=Nat.le_trans (tot_len KK) hn
 have h2:=fun i=>Nat.le_trans (tot_vals KK i) hn
 have h3:∀ i,(KK.getD i kz).dg.size≤maxLen:=fun i=>Nat.le_trans (tot_dg KK i) (Nat.le_trans hn (by decide))
 have hok:okC room KK=true:=by unfold fndB at hb;rw [Bool.and_eq_true] at hb;exact hb.1
 obtain⟨hr0,hr1,hr2,hdist⟩:=okC_parts hok
 have hnw:newTo KK d KK.length=false:=by unfold fndB at hb;rw [Bool.and_eq_true] at hb;simpa using hb.2
 obtain⟨j,hj,ej⟩:∃ j,j<KK.length∧(KK.getD j kz).dg=d:=by
  refine (has_dm KK d KK.length).1 ?_
  rw [newTo_dm,hnw]
  rfl
 have eK:=ent_at hdist j hj ej
 have HK:Hid (fndK room KK d=KK.getD j kz):=by show _=_;unfold fndK;rw [hb,←eK];rfl
 have HL:Hid (fndL room KK d=rest KK d++[KK.getD j kz]):=by show _=_;unfold fndL;rw [hb,←eK];rfl
 have HB:=hide hb
 have hT:Told (dmAt KK KK.length) d (j:Int) true:=⟨by rw [←ej,at_dm KK (num 0) KK.length hdist j hj];rfl,by rw [newTo_dm,hnw];rfl⟩
 have hSa:∀ i,i<(KK++[KK.getD j kz]).length→∃ c b,Told ((dmAt KK KK.length).put (key (KK.getD j kz).dg) (num KK.length)) ((KK++[KK.getD j kz]).getD i kz).dg c b∧S1 KK (KK.getD j kz) i=(b && (c == (i:Int))):=fun i hi=>told1 hdist (KK.getD j kz) i hi
 have hsz:=size1 hdist (KK.getD j kz)
 have hrl:=rest_len (d:=(KK.getD j kz).dg) hdist
 have hf1:=filt1 KK (KK.getD j kz)
 have hdd:∀ i,((KK++[KK.getD j kz]).getD i kz).dg.size≤maxLen:=by
  intro i
  by_cases q:i<KK.length
  ·rw [getD_snoc KK _ i q];exact h3 i
  ·by_cases q2:i=KK.length
   ·rw [q2,getD_last];exact h3 j
   ·rw [getD_out _ _ (by rw [List.length_append,List.length_singleton];omega)];exact Nat.zero_le _
 have hvv:∀ i,((KK++[KK.getD j kz]).getD i kz).vals.length≤1048576:=by
  intro i
  by_cases q:i<KK.length
  ·rw [getD_snoc KK _ i q];exact h2 i
  ·by_cases q2:i=KK.length
   ·rw [q2,getD_last];exact h2 j
   ·rw [getD_out _ _ (by rw [List.length_append,List.length_singleton];omega)];exact Nat.zero_le _
 have hlen:(KK++[KK.getD j kz]).length≤1048577:=by rw [List.length_append,List.length_singleton];omega
 have CO:=hide (fun (s bm:Nat) (v4:Value) (W W4:World) (S4:Shf W W4 s bm 0 room v4 (KK++[KK.getD j kz]) ((dmAt KK KK.length).put (key (KK.getD j kz).dg) (num KK.length)))=>cache s bm room v4 _ _ W W4 (S1 KK (KK.getD j kz)) S4 hlen hdd hvv (by rw [hsz];omega) hSa)
 rw [hf1,ej] at CO
 have CFY:=hide (fun (s bm:Nat) (v4:Value) (W w2:World) (S2:Shf W w2 s bm 0 room v4 KK (dmAt KK KK.length))=>findYes s bm j room v4 KK (dmAt KK KK.length) W w2 d S2 hd h1 hj (h3 j) (h2 j) hT)
 have HOK:=hide hok
 have HEJ:=hide ej
 obtain⟨a,cap,rfl⟩:=hv.len
 obtain⟨W1,hW1⟩:∃ W1,W1=((w.alloc (.cells #[.int .i64 room,.slice a KK.length cap] 30)).alloc (.cells #[.int .i64 0,.slice none 0 0] 30)).alloc (.cells #[.string ⟨#[]⟩,.bool false,.slice none 0 0,.int .i64 0] 36):=⟨_,rfl⟩
 have g1:w.grownBy W1 none:=by rw [hW1];exact grown_trans (grown_trans (World.grownBy_alloc _ _ _) (World.grownBy_alloc _ _ _)) (World.grownBy_alloc _ _ _)
 have s1:W1.heap.size=w.heap.size+1+1+1:=by rw [hW1];simp only [World.size_alloc]
 have B1:Box 30 W1 w.heap.size (.int .i64 room) (.slice a KK.length cap):=by rw [hW1];exact ((Box.new _ _ _ _).kept (World.grownBy_alloc _ _ none)).kept (World.grownBy_alloc _ _ none)
 have R1:Box 30 W1 (w.heap.size+1) (.int .i64 0) (.slice none 0 0):=by
  rw [hW1]
  have:=(Box.new 30 (w.alloc (.cells #[.int .i64 room,.slice a KK.length cap] 30)) (.int .i64 0) (.slice none 0 0)).kept (World.grownBy_alloc _ (.cells #[.string ⟨#[]⟩,.bool false,.slice none 0 0,.int .i64 0] 36) none)
  rw [World.size_alloc] at this
  exact this
 have Q1:Box4 36 W1 (w.heap.size+1+1) (.string ⟨#[]⟩) (.bool false) (.slice none 0 0) (.int .i64 0):=by
  rw [hW1]
  have:=Box4.new 36 ((w.alloc (.cells #[.int .i64 room,.slice a KK.length cap] 30)).alloc (.cells #[.int .i64 0,.slice none 0 0] 30)) (.string ⟨#[]⟩) (.bool false) (.slice none 0 0) (.int .i64 0)
  rw [World.size_alloc,World.size_alloc] at this
  exact this
 have CS:=hide (shelfOf (.slice a KK.length cap) room KK W1 h1 h3 (hv.kept g1))
 have HG:=hide g1
 have HB1:=hide B1
 have HR1:=hide R1
 have HQ1:=hide Q1
 have b0:=B1.c0
 have b1:=B1.c1
 rw [hW1] at b0 b1
 clear g1 B1 R1 Q1 hv
 go_enter Tryz.func30,Tryz.ntmps30
 go_upto_region 1 with fail
 rw [←hW1] at b0 b1 ⊢
 clear hW1
 go_wp2_with fail
 refine (unhide CS).mono ?_;rintro e w2 ⟨s,bm,room',v',E,D,rfl,S2,hy,hno⟩
 obtain⟨rfl,rfl,rfl⟩:=hy (unhide HOK)
 have CF:=hide (unhide CFY s bm v' W1 w2 S2)
 clear b0 b1 CS S2 hy hno CFY hSa hsz hrl hf1 hdd hvv hlen hT eK h1 h2 h3 hok hnw hr0 hr1 hr2 hdist hb
 unfold FoundE at CF
 rw [unhide HEJ] at CF
 generalize E.getD j kz=x at *
 obtain⟨dg,sat,vals,cost⟩:=x
 dsimp only at *
 subst ej
 go_wp2_with fail
 refine (unhide CF).mono ?_;rintro e w3 ⟨u3,v3,lo,rfl,S3,o3,l3,l4⟩
 obtain⟨ua3,uc3,rfl,hx3⟩:=Sl.of_own o3
 clear hx3
 obtain⟨W4,hW4⟩:∃ W4,W4=w3.alloc (.cells #[.string dg,.bool sat,.slice ua3 vals.length uc3,.int .i64 cost] 36):=⟨_,rfl⟩
 have g4:w3.grownBy W4 none:=by rw [hW4];exact World.grownBy_alloc _ _ _
 have K4:Box4 36 W4 w3.heap.size (.string dg) (.bool sat) (.slice ua3 vals.length uc3) (.int .i64 cost):=by rw [hW4];exact Box4.new _ _ _ _ _ _
 have gd:=cf.grown_drew W4 none
 have gA:W1.grownBy W4.drew none:=grown_trans (r:=none) (grown_trans (r:=none) S3.g g4) gd
 have S5:=(S3.kept g4).kept gd
 have C5:=hide (unhide CO s bm v3 W1 W4.drew S5)
 have hs5:=S5.hs
 have hl5:=S5.lt
 have z4:=gA.size
 have G5:=hide (grown_trans (r:=none) (unhide HG) gA)
 have R5:=hide ((unhide HR1).kept gA)
 have Q5:=hide ((unhide HQ1).kept gA)
 have K5:=hide (K4.kept gd)
 have O5:=hide (row_kept (row_kept o3 g4) gd)
 have l3':=S3.lt
 have zz:w3.heap.size<W4.heap.size:=by rw [hW4,World.size_alloc];omega
 have y0:=K4.c0
 have y1:=K4.c1
 have y2:=K4.c2
 have y3:=K4.c3
 clear g4 K4 gd gA S3 S5 CO CF o3 HR1 HQ1 HG HB1 HEJ HOK
 go_upto_region 3 with fail
 rw [←hW4]
 clear hW4
 generalize w3.heap.size=kb at *
 have n1:¬ kb=w.heap.size+1:=by omega
 have n2:¬ w.heap.size+1=kb:=by omega
 have n3:(some s:Option Nat)≠some (w.heap.size+1):=by intro e;injection e;omega
 have n4:(some s:Option Nat)≠some (w.heap.size+1+1):=by intro e;injection e;omega
 have n5:(some s:Option Nat)≠some kb:=by intro e;injection e;omega
 have GO:Hid (∀ w6,W4.drew.grownBy w6 (some s)→w.grownBy w6 none):=fun w6 g=>grown_in (unhide G5) g (by omega)
 have OO:Hid (∀ w6,W4.drew.grownBy w6 (some s)→w6.ownsRow lo 3 1 (.slice ua3 vals.length uc3) vals.length (ints vals)):=fun w6 g=>(unhide O5).kept g (by
  cases q:(Value.slice ua3 vals.length uc3).ownBlock with
  | none=>exact .inl rfl
  | some k=>exact .inr (fun e=>by cases e;have:=((unhide O5).lt _ q).1;omega))
 go_wp2_with fail
 go_region_with (first
  | (go_at_call 62;refine (unhide C5).mono ?_;rintro e w6 ⟨u6,rfl,o6,g6⟩;obtain⟨ua6,uc6,rfl⟩:=o6.len;have R6:=hide ((unhide R5).by g6 n3);have Q6:=hide ((unhide Q5).by g6 n4);have K6:=hide ((unhide K5).by g6 n5);have G6:=hide (unhide GO w6 g6);have V6:=hide (unhide OO w6 g6);have O6:=hide o6;have z6:=g6.size;have r0:=(unhide R6).c0;have r1:=(unhide R6).c1;have rf0:=(unhide R6).f 0;have rf1:=(unhide R6).f 1;have q0:=(unhide Q6).c0;have q1:=(unhide Q6).c1;have q2:=(unhide Q6).c2;have q3:=(unhide Q6).c3;have qf0:=(unhide Q6).f 0;have qf1:=(unhide Q6).f 1;have qf2:=(unhide Q6).f 2;have qf3:=(unhide Q6).f 3;have k0:=(unhide K6).c0;have k1:=(unhide K6).c1;have k2:=(unhide K6).c2;have k3:=(unhide K6).c3;clear g6 o6))
 all_goals
  go_wp2_with fail
  (try simp only [Exit.inBlock,Exit.then])
  obtain⟨RR,QQ,gO,sz⟩:=put6 (unhide R6) (unhide Q6) (.int .i64 room') (.slice ua6 ((rest E dg).length+1) uc6) (.string dg) (.bool sat) (.slice ua3 vals.length uc3) (.int .i64 cost)
  refine bodyPost_ret (ret_find rfl rfl rfl RR QQ) rfl ⟨_,_,W4.drew.heap.size,by rw [unhide HK,unhide HB];rfl,by omega,by rw [sz];exact z6,?_,?_,grown_outs (unhide G6) gO (by omega)⟩
  ·rw [unhide HK]
   exact⟨own_mono (row_outs (hi:=W4.drew.heap.size) (unhide V6) (fun k e=>((unhide O5).lt k e).2) gO (.inr (by omega))) (by omega),fun k e=>((unhide O5).lt k e).2⟩
  ·rw [unhide HL,sz]
   have q:=unhide O6
   rw [List.length_append] at q
   exact q.outs gO (.inr (by omega))
theorem implCacheFind (v:Value)(room:Int)(KK:List Kn)(d:ByteArray)(w:World)(hn:tot KK≤1048576)(hd:d.size≤maxLen)(hv:VKns w v KK) :
  Calls Tryz.prog 30 #[.agg #[.int .i64 room,v],.string d] w fun e w'=>FindE w room KK d e w':=by
 cases hb:fndB room KK d
 ·exact findCacheNo v room KK d w hn hd hv hb
 ·exact findCacheYes v room KK d w hn hd hv hb
end Go.Proofs.YtnlllcgcaddhmaaGreatDoor.ua
namespace Go.Proofs.YtnlllcgcaddhmaaGreatDoor.ua
open Go.ChangeShapes Go.WideShapes Go.ChangeAt Go.RowKit
open sl (Sl Own ints marks hide unhide ret_int ret_bool grown_refl grown_trans grown_drewN below_of of_below)
open css (Outs outs_trans outs_none outs_by outs_refl own_mono own_sub own_outs own_kind)
open yb (Box4)
open cf (Box)
set_option linter.unusedVariables false
structure MidC (w wr:World) (room:Int) (v u:Value) (M:List Kn):Prop where
 g:w.grownBy wr none
 b:Box 30 wr w.heap.size (.int .i64 room) v
 r:Box 30 wr (w.heap.size+1) (.int .i64 0) (.slice none 0 0)
 o:Box 30 wr (w.heap.size+1+1) (.int .i64 room) u
 e:OwnK (w.heap.size+3) wr.heap.size wr u M
theorem MidC.kept {w wr w1:World}{room:Int}{v u:Value}{M:List Kn}(h:MidC w wr room v u M)(g:wr.grownBy w1 none):MidC w w1 room v u M :=
 ⟨grown_trans h.g g,h.b.kept g,h.r.kept g,h.o.kept g,(h.e.kept g).sub (Nat.le_refl _) g.size⟩
theorem cache_ty:(36:Nat)≠30∧(3:Nat)≠30:=by decide
theorem MidC.grow {w wr w1:World}{room:Int}{v u u':Value}{M:List Kn}{k:Kn}{o:Obj}(h:MidC w wr room v u M)(g:(wr.alloc o).grownBy w1 u.ownBlock)(e:OwnK (w.heap.size+3) w1.heap.size w1 u' (M++[k])) :
  Box 30 w1 (w.heap.size+1+1) (.int .i64 room) u∧MidC w (w1.setCell ⟨w.heap.size+1+1,1,none⟩ u') room v u' (M++[k])∧∀ c i x,c<w.heap.size+3→wr.cell? ⟨c,i,none⟩=some x→w1.cell? ⟨c,i,none⟩=some x:=by
 have ga:=World.grownBy_alloc wr o none
 have hlo:∀ q,u.ownBlock=some q→w.heap.size+3≤q:=by
  obtain⟨D,_,ho,_⟩:=h.e
  exact fun q e=>(ho.lt q e).1
 have n0:u.ownBlock≠some w.heap.size:=fun e=>by have:=hlo _ e;omega
 have n1:u.ownBlock≠some (w.heap.size+1):=fun e=>by have:=hlo _ e;omega
 have n2:u.ownBlock≠some (w.heap.size+1+1):=fun e=>by have:=hlo _ e;omega
 have b1:=(h.b.kept ga).by g n0
 have r1:=(h.r.kept ga).by g n1
 have o1:=(h.o.kept ga).by g n2
 refine⟨o1,⟨?_,b1.setO (by omega),r1.setO (by omega),o1.set1 u',?_⟩,fun c i x hc hx=>g.cell (ga.cell hx (fun e=>by cases e)) (fun e=>by have:=hlo c e.symm;omega)⟩
 ·refine cf.grown_set ?_ (by omega)
  have hg:=grown_trans (r:=none) h.g ga
  exact⟨g.os.trans hg.os,g.tape.trans hg.tape,g.output.trans hg.output,Nat.le_trans hg.size g.size,fun k hk _=>by
   rw [g.block k (Nat.lt_of_lt_of_le hk hg.size) (fun e=>by have:=hlo k e.symm;omega)]
   exact hg.block k hk (fun e=>by cases e)⟩
 ·rw [cf.size_set]
  exact ownK_set e (by omega)
set_option maxRecDepth 10000 in
set_option maxHeartbeats 4000000 in
theorem l10Copy (v:Value)(room:Int)(KK:List Kn)(w:World)(hn:KK.length≤1048576)(hin:∀ i,(KK.getD i kz).vals.length≤1048576)(hv:VKns w v KK) :
  Calls Tryz.prog 46 #[.agg #[.int .i64 room,v]] w fun e w'=>CacheE w room KK e w':=by
 obtain⟨a,cap,rfl⟩:=hv.len
 obtain⟨W1,hW1⟩:∃ W1,W1=((w.alloc (.cells #[.int .i64 room,.slice a KK.length cap] 30)).alloc (.cells #[.int .i64 0,.slice none 0 0] 30)).alloc (.cells #[.int .i64 room,.slice none 0 0] 30):=⟨_,rfl⟩
 have g1:w.grownBy W1 none:=by rw [hW1];exact grown_trans (grown_trans (World.grownBy_alloc _ _ _) (World.grownBy_alloc _ _ _)) (World.grownBy_alloc _ _ _)
 have M1:MidC w W1 room (.slice a KK.length cap) (.slice none 0 0) (KK.take 0):=by
  refine⟨g1,?_,?_,?_,OwnK.none _ _ _⟩
  ·rw [hW1];exact ((Box.new _ _ _ _).kept (World.grownBy_alloc _ _ none)).kept (World.grownBy_alloc _ _ none)
  ·rw [hW1]
   have:=(Box.new 30 (w.alloc (.cells #[.int .i64 room,.slice a KK.length cap] 30)) (.int .i64 0) (.slice none 0 0)).kept (World.grownBy_alloc _ (.cells #[.int .i64 room,.slice none 0 0] 30) none)
   rw [World.size_alloc] at this
   exact this
  ·rw [hW1]
   have:=Box.new 30 ((w.alloc (.cells #[.int .i64 room,.slice a KK.length cap] 30)).alloc (.cells #[.int .i64 0,.slice none 0 0] 30)) (.int .i64 room) (.slice none 0 0)
   rw [World.size_alloc,World.size_alloc] at this
   exact this
 have ST:=hide M1
 have HV:=hide hv
 clear g1 M1 hv
 go_enter Tryz.func46,Tryz.ntmps46
 go_upto_region 2 with fail
 rw [←hW1]
 clear hW1
 go_wp2_with fail
 go_loopw [4] (fun i wr=>∃ j:Nat,j≤KK.length∧i=.int .i64 j∧∃ u,Hid (MidC w wr room (.slice a KK.length cap) u (KK.take j))) (fun i _=>KK.length - (intOf i).toNat)
 case atStart=>exact⟨0,Nat.zero_le _,rfl,_,ST⟩
 case round =>
  obtain⟨j,hj,rfl,u,hm⟩:=hrel
  clear ST
  have b1:=(unhide hm).b.c1
  by_cases hlt:j<KK.length
  ·obtain⟨a',cap',e,hh⟩:=unhide HV
   simp only [Value.slice.injEq] at e
   obtain⟨rfl,_,rfl⟩:=e
   rcases hh with h | ⟨b,off,rfl,hb,hcb⟩
   ·rw [h] at hlt
    simp at hlt
   ·obtain⟨y,hy,hvl⟩:=hcb j hlt
    obtain⟨c0,c1,c2,c3,_⟩:=hy.kept (unhide hm).g
    have HVL:=hide (hvl.kept (unhide hm).g)
    have HTK:=hide (take_snoc KK j hlt)
    have hL:=hin j
    have hi':(j:Int)<(KK.length:Int):=by omega
    generalize KK.getD j kz=x at *
    obtain⟨dg,sat,vals,cost⟩:=x
    dsimp only at *
    obtain⟨ya,yc,rfl,_⟩:=hvl.sl
    have HJE:Hid ((KK.take j).length=j):=by show _=_;rw [List.length_take];omega
    have HJL:Hid ((KK.take j).length≤1048576):=by show _≤_;rw [List.length_take];omega
    obtain⟨xa,xc,hxv⟩:=(unhide hm).e.len
    generalize hfn:(KK.take j).length=fn at hxv
    clear hfn
    subst hxv
    have CC:=hide (fun w1 (g:wr.grownBy w1 none)=>l10CopyKnown (.slice ya vals.length yc) ⟨dg,sat,vals,cost⟩ w1 hL ((unhide HVL).kept g))
    dsimp only at CC
    have o1:=(unhide hm).o.c1
    have CK:Hid (∀ w',wr.grownBy w' none→w'.cell? ⟨w.heap.size,1,none⟩=some (.slice (some ⟨b,off,none⟩) KK.length cap)∧w'.cell? ⟨w.heap.size+1+1,1,none⟩=some (.slice xa fn xc)∧w'.cell? ⟨b,off+j*4,none⟩=some (.string dg)∧w'.cell? ⟨b,off+j*4+1,none⟩=some (.bool sat)∧w'.cell? ⟨b,off+j*4+2,none⟩=some (.slice ya vals.length yc)∧w'.cell? ⟨b,off+j*4+3,none⟩=some (.int .i64 cost)):=fun w' g=>⟨g.cell b1 (fun e=>by cases e),g.cell o1 (fun e=>by cases e),g.cell c0 (fun e=>by cases e),g.cell c1 (fun e=>by cases e),g.cell c2 (fun e=>by cases e),g.cell c3 (fun e=>by cases e)⟩
    clear hcb hy hvl HV
    go_wp2_with fail
    have GX:=hide (cf.grown_drew wr none)
    have of1:=(unhide hm).o.f 1
    go_region_law (first
     | (go_simp;go_at_call 91;refine (unhide CC _ (unhide GX)).mono ?_;rintro e w9 ⟨v9,rfl,o9,g9⟩;obtain⟨v9a,v9c,rfl,_⟩:=Sl.of_own o9;have U9:=hide (Own.of o9);have G9:=hide (grown_trans (r:=none) (unhide GX) g9);obtain⟨k1,k2,k3,k4,k5,k6⟩:=unhide CK _ (unhide G9);have M9:=hide ((unhide hm).kept (unhide G9));have E9:=hide ((unhide hm).e.kept (unhide G9));have z9:=(unhide G9).size;have z8:=(unhide hm).o.lt;have k7:=(unhide M9).o.f 1;have k9:=((unhide M9).o.kept (World.grownBy_alloc w9 (.cells #[.string dg,.bool sat,.slice v9a vals.length v9c,.int .i64 cost] 36) none)).c1;clear g9 o9)
     | (refine stepK (k:=⟨dg,sat,vals,cost⟩) (unhide E9) (unhide U9) (by omega) z9 (unhide HJL) (by rfl) _ _ (by rfl) (by rfl) (by rfl) ?_;intro g6 cap6 w6 o6 gg6;have R6:=hide ((unhide M9).grow gg6 o6);rw [unhide HJE] at R6;have p1:=(unhide R6).1.c1;have pf:=(unhide R6).1.f 1;clear o6 gg6))
    all_goals
     go_wp2_with fail
     go_roundw
     case rel=>exact⟨j+1,by omega,by go_num,_,by rw [unhide HTK];exact (unhide R6).2.1⟩
     case measure=>simp [intOf];omega
  ·have hi':¬ (j:Int)<(KK.length:Int):=by omega
   have hjj:KK.take j=KK:=List.take_of_length_le (by omega)
   rw [hjj] at hm
   obtain⟨xa,xc,rfl⟩:=(unhide hm).e.len
   have o0:=(unhide hm).o.c0
   have o1:=(unhide hm).o.c1
   have r0:=(unhide hm).r.c0
   have r1:=(unhide hm).r.c1
   have rf0:=(unhide hm).r.f 0
   have rf1:=(unhide hm).r.f 1
   have zz:=(unhide hm).o.lt
   clear hjj HV
   go_wp2_with fail
   (try simp only [Exit.inBlock,Exit.then])
   refine bodyPost_ret (ret_cache rfl rfl (((unhide hm).r.set0 (.int .i64 room)).set1 (.slice xa KK.length xc))) rfl ⟨_,rfl,?_,?_⟩
   ·rw [cf.size_set,cf.size_set]
    exact (ownK_set (ownK_set (unhide hm).e (by omega)) (by omega)).sub (by omega) (Nat.le_refl _)
   ·exact cf.grown_set (cf.grown_set (unhide hm).g (by omega)) (by omega)
end Go.Proofs.YtnlllcgcaddhmaaGreatDoor.ua
namespace Go.Proofs.YtnlllcgcaddhmaaGreatDoor.ua
open Go.ChangeShapes Go.WideShapes Go.ChangeAt Go.RowKit
open sl (Sl Own ints marks hide unhide ret_int ret_bool grown_refl grown_trans grown_drewN below_of of_below)
open css (Outs outs_trans outs_none outs_by outs_refl own_mono own_sub own_outs own_kind)
open yb (Box4)
open cf (Box)
set_option linter.unusedVariables false
theorem cells4_take (D:List (Value × Kn))(j:Nat):cells4 (D.take j)=(cells4 D).take (j*4):=by
 by_cases h:j≤D.length
 ·have l:(cells4 (D.take j)).length=j*4:=by rw [cells4_len,List.length_take];omega
  have e:cells4 D=cells4 (D.take j)++cells4 (D.drop j):=by rw [←cells4_append,List.take_append_drop]
  rw [e,List.take_left' l]
 ·rw [List.take_of_length_le (by omega),List.take_of_length_le (by rw [cells4_len];omega)]
theorem cells4_drop (D:List (Value × Kn))(j:Nat):cells4 (D.drop j)=(cells4 D).drop (j*4):=by
 by_cases h:j≤D.length
 ·have l:(cells4 (D.take j)).length=j*4:=by rw [cells4_len,List.length_take];omega
  have e:cells4 D=cells4 (D.take j)++cells4 (D.drop j):=by rw [←cells4_append,List.take_append_drop]
  rw [e,List.drop_left' l]
 ·rw [List.drop_eq_nil_of_le (by omega),List.drop_eq_nil_of_le (by rw [cells4_len];omega)]
  rfl
def RwK (lo:Nat)(w:World)(v:Value)(E:List Kn):Prop:=∃ D:List (Value × Kn),D.map (·.2)=E∧w.ownsRow lo 36 4 v D.length (cells4 D)∧∀ p∈D,Vl w p.1 p.2.vals
theorem OwnK.rwk {lo hi:Nat}{w:World}{v:Value}{KK:List Kn}(h:OwnK lo hi w v KK):RwK lo w v KK:=by
 obtain⟨D,e,ho,_,hi,_⟩:=h
 exact⟨D,e,ho,fun p hp=>⟨_,_,hi p hp⟩⟩
theorem RwK.kept {lo:Nat}{w w':World}{v:Value}{KK:List Kn}(h:RwK lo w v KK)(g:w.grownBy w' none):RwK lo w' v KK:=by
 obtain⟨D,e,ho,hv⟩:=h
 exact⟨D,e,row_kept ho g,fun p hp=>(hv p hp).kept g⟩
theorem RwK.sub {lo lo':Nat}{w:World}{v:Value}{KK:List Kn}(h:RwK lo w v KK)(a:lo'≤lo):RwK lo' w v KK:=by
 obtain⟨D,e,ho,hv⟩:=h
 exact⟨D,e,own_mono ho a,hv⟩
theorem RwK.by {lo c:Nat}{w w':World}{v:Value}{KK:List Kn}{cs:Array Value}{t:TypeId}{fz:Nat × Nat}(h:RwK lo w v KK)(g:w.grownBy w' (some c))(hc:w.heap[c]?=some (.cells cs t fz))(h1:(36:Nat)≠t)(h2:(3:Nat)≠t):RwK lo w' v KK:=by
 obtain⟨D,e,ho,hv⟩:=h
 have ne:∀ {lo n z:Nat} {t':TypeId} {u:Value} {xs:List Value},w.ownsRow lo t' z u n xs→(t':Nat)≠t→u.ownBlock=none∨u.ownBlock≠some c:=by
  intro lo n z t' u xs hu ht
  cases q:u.ownBlock with
  | none=>exact .inl rfl
  | some k =>
   refine .inr (fun e=>?_)
   cases e
   obtain⟨c',fz',hc'⟩:=own_kind hu c q
   rw [hc] at hc'
   simp only [Option.some.injEq,Obj.cells.injEq] at hc'
   exact ht hc'.2.1.symm
 refine⟨D,e,ho.kept g (ne ho h1),fun p hp=>?_⟩
 obtain⟨l,hi,q⟩:=hv p hp
 exact⟨l,hi,q.1.kept g (ne q.1 h2),q.2⟩
theorem RwK.vkns {lo:Nat}{w:World}{v:Value}{KK:List Kn}(h:RwK lo w v KK):VKns w v KK:=by
 obtain⟨D,rfl,ho,hv⟩:=h
 have ho':=ho
 obtain⟨_,h2⟩:=ho
 rcases h2 with ⟨rfl,h0⟩ | ⟨g,cap,cur,rfl,hg,hh,_⟩
 ·have:D=[]:=List.eq_nil_of_length_eq_zero h0
  subst this
  exact⟨Option.none,0,rfl,.inl rfl⟩
 ·refine⟨some ⟨g,0,Option.none⟩,cap,by rw [List.length_map],.inr ⟨g,0,rfl,(Array.getElem?_eq_some_iff.1 hh).1,fun i hi'=>?_⟩⟩
  rw [List.length_map] at hi'
  have q:=own_at ho' rfl hi'
  rw [map_at hi',Nat.zero_add]
  exact⟨D[i].1,⟨q.1,q.2.1,q.2.2.1,q.2.2.2,(hv _ (List.getElem_mem hi')).sl⟩,hv _ (List.getElem_mem hi')⟩
theorem RwK.len {lo:Nat}{w:World}{v:Value}{KK:List Kn}(h:RwK lo w v KK):∃ a cap,v=.slice a KK.length cap:=h.vkns.len
theorem RwK.lo {lo:Nat}{w:World}{v:Value}{KK:List Kn}(h:RwK lo w v KK):∀ k,v.ownBlock=some k→lo≤k∧k<w.heap.size:=by
 obtain⟨D,e,ho,hv⟩:=h
 exact fun k q=>ho.lt k q
def Lies (w:World)(ad:Addr)(B:List Kn):Prop:=∃ D:List (Value × Kn),D.map (·.2)=B∧(∀ j y,(cells4 D)[j]?=some y→w.cell? (ad.add j)=some y)∧∀ p∈D,Vl w p.1 p.2.vals
theorem Lies.kept {w w':World}{ad:Addr}{B:List Kn}(h:Lies w ad B)(g:w.grownBy w' none):Lies w' ad B:=by
 obtain⟨D,e,hc,hv⟩:=h
 exact⟨D,e,fun j y hj=>g.cell (hc j y hj) (fun e=>by cases e),fun p hp=>(hv p hp).kept g⟩
theorem Lies.nil (w:World)(ad:Addr):Lies w ad []:=⟨[],rfl,fun j y hj=>by simp [cells4] at hj,fun p hp=>by cases hp⟩
theorem cells_one {w:World}{D:List (Value × Kn)}(hv:∀ p∈D,Vl w p.1 p.2.vals):∀ y∈cells4 D,y.oneCell'=true:=by
 intro y hy
 unfold cells4 at hy
 rw [List.mem_flatMap] at hy
 obtain⟨p,hp,hy⟩:=hy
 obtain⟨l,hi,q⟩:=hv p hp
 exact four_one p.2 (own_one q) y hy
theorem wp_app {o:Oper}{a:Act}{K:Act→World→Prop}{Q:Exit→Act→World→Prop}{lo c:Nat}{wr:World}{v:Value}{A B:List Kn}{ad:Addr}(h:RwK lo wr v A)(hB:Lies wr ad B)(hlo:lo≤wr.heap.size)(hl:A.length+B.length≤4194304)(s x:Operand)
  (ho:o.op=.call { callee:=.builtin .append,args:=#[s,x],argTypes:=#[28,28] }) (hs:a.eval s=v) (m:Nat) (hm:B.length=m) (hx:a.eval x=.slice (some ad) m c)
  (hK:∀ va n cap w1,RwK lo w1 (.slice va n cap) (A++B)→wr.grownBy w1 v.ownBlock→K (a.put o.dst (.slice va n cap)) w1):o.wp Tryz.prog a wr K Q:=by
 subst hm
 obtain⟨i0,hi,hz0,hz1,hz2⟩:=info_parts infoK
 obtain⟨D,rfl,hw,hin⟩:=h
 obtain⟨E,rfl,hc,hv⟩:=hB
 rw [List.length_map,List.length_map] at *
 obtain⟨v',w',hr,h2,h3,_,_⟩:=run_append_own_at (P:=Tryz.prog) wr lo 28 o.type 36 i0 (.agg #[.string ⟨#[]⟩,.bool false,.slice none 0 0,.int .i64 0]) 4 56 Tryz.underlying28 hi hz0 hz1 hz2 rfl (by decide) v D.length (cells4 D) hw ad E.length c (cells4 E) (cells4_len E) hc (cells_one hv) (by unfold maxLen;omega) (by omega) hlo
 have kp:∀ p:Value × Kn,Vl wr p.1 p.2.vals→Vl w' p.1 p.2.vals:=by
  rintro p ⟨l,hi,q⟩
  exact⟨l,hi,q.1.kept h3 (own_ne' hw q.1),q.2⟩
 have R:RwK lo w' v' (D.map (·.2)++E.map (·.2)):=by
  refine⟨D++E,by rw [List.map_append],?_,?_⟩
  ·rw [List.length_append,cells4_append]
   exact h2
  ·intro p hp
   rw [List.mem_append] at hp
   rcases hp with hp | hp
   ·exact kp p (hin p hp)
   ·exact kp p (hv p hp)
 obtain⟨va,cap,rfl⟩:=R.len
 rw [List.length_append,List.length_map,List.length_map] at *
 unfold Oper.wp execOp
 simp only [ho,resolve,invoke,builtin,Sem.run_bind,Sem.run_pure,Result.andThen_ok,List.map_toArray,List.map_cons,List.map_nil,hs,hx,hr]
 exact hK va _ cap w' R h3
theorem stepA {ops:Array Oper}{o:Oper}{a:Act}{K:Act→World→Prop}{Q:Exit→Act→World→Prop}{X:Prop}{lo c:Nat}{wr:World}{v:Value}{A B:List Kn}{ad:Addr}(h:RwK lo wr v A)(hB:Lies wr ad B)(hlo:lo≤wr.heap.size)(hl:A.length+B.length≤4194304)(hgd:o.guard=none)(s x:Operand)
  (ho:o.op=.call { callee:=.builtin .append,args:=#[s,x],argTypes:=#[28,28] }) (hs:a.eval s=v) (m:Nat) (hm:B.length=m) (hx:a.eval x=.slice (some ad) m c)
  (hK:∀ va n cap w1,RwK lo w1 (.slice va n cap) (A++B)→wr.grownBy w1 v.ownBlock→K (a.put o.dst (.slice va n cap)) w1) :
  if Region.wanted o (yielded ops a.tmps)=true then Oper.wp Tryz.prog o a wr K Q else X:=by
 have hw:Region.wanted o (yielded ops a.tmps)=true:=by simp [Region.wanted,hgd]
 rw [if_pos hw]
 exact wp_app h hB hlo hl s x ho hs m hm hx hK
theorem listA {ops:Array Oper}{rest:List Oper}{o:Oper}{a:Act}{Q:Exit→Act→World→Prop}{lo c:Nat}{wr:World}{v:Value}{A B:List Kn}{ad:Addr}(h:RwK lo wr v A)(hB:Lies wr ad B)(hlo:lo≤wr.heap.size)(hl:A.length+B.length≤4194304)(hgd:o.guard=none)(s x:Operand)
  (ho:o.op=.call { callee:=.builtin .append,args:=#[s,x],argTypes:=#[28,28] }) (hs:a.eval s=v) (m:Nat) (hm:B.length=m) (hx:a.eval x=.slice (some ad) m c)
  (hK:∀ va n cap w1,RwK lo w1 (.slice va n cap) (A++B)→wr.grownBy w1 v.ownBlock→wpList Tryz.prog ops Q rest (a.put o.dst (.slice va n cap)) w1):wpList Tryz.prog ops Q (o::rest) a wr :=
 wpList_plain hgd fun _ hK'=>wp_app h hB hlo hl s x ho hs m hm hx fun va n cap w1 h1 h2=>hK' _ _ (hK va n cap w1 h1 h2)
theorem made_nilK (W:World):RwK W.heap.size (W.alloc (.cells #[] 36)) (.slice (some ⟨W.heap.size,0,none⟩) 0 0) []:=by
 refine⟨[],rfl,⟨rfl,.inr ⟨W.heap.size,0,#[],rfl,Nat.le_refl _,Go.heap_alloc_new W _,?_⟩⟩,fun p hp=>by cases hp⟩
 simp [cells4]
theorem grown_row {w w1 w2:World}{v:Value}{M:List Kn}(g:w.grownBy w1 none)(h:RwK w.heap.size w1 v M)(k:w1.grownBy w2 v.ownBlock):w.grownBy w2 none :=
 ⟨k.os.trans g.os,k.tape.trans g.tape,k.output.trans g.output,Nat.le_trans g.size k.size,fun i hi _=>by
  rw [k.block i (Nat.lt_of_lt_of_le hi g.size) (fun e=>by have:=(h.lo i e.symm).1;omega)]
  exact g.block i hi (fun e=>by cases e)⟩
theorem RwK.parts {lo:Nat}{w:World}{v:Value}{KK:List Kn}{g cap:Nat}(h:RwK lo w v KK)(e:v=.slice (some ⟨g,0,none⟩) KK.length cap)(j:Nat)(hj:j≤KK.length):Lies w ⟨g,0,none⟩ (KK.take j)∧Lies w ⟨g,j*4,none⟩ (KK.drop j):=by
 obtain⟨D,rfl,ho,hv⟩:=h
 subst e
 rw [List.length_map] at *
 refine⟨⟨D.take j,by rw [List.map_take],fun q y hq=>?_,fun p hp=>hv p (List.mem_of_mem_take hp)⟩,⟨D.drop j,by rw [List.map_drop],fun q y hq=>?_,fun p hp=>hv p (List.mem_of_mem_drop hp)⟩⟩
 ·rw [cells4_take,List.getElem?_take] at hq
  split at hq
  ·rename_i hlt
   rw [Addr.add_lit,Nat.zero_add,ho.cellAt _ (by omega)]
   exact hq
  ·cases hq
 ·rw [cells4_drop,List.getElem?_drop] at hq
  have hlt:=(List.getElem?_eq_some_iff.1 hq).1
  rw [cells4_len] at hlt
  rw [Addr.add_lit,ho.cellAt _ (by omega)]
  exact hq
set_option maxHeartbeats 800000 in
theorem l10At (v:Value)(room:Int)(KK:List Kn)(d:ByteArray)(w:World)(hn:KK.length≤1048576)(hv:Kns w v KK) :
  Calls Tryz.prog 89 #[.agg #[.int .i64 room,v],.string d] w fun e w'=>∃ r:Int,e=.returned (.int .i64 r)∧w.grownBy w' none∧((r = -1∧newTo KK d KK.length=true)∨∃ j:Nat,r=(j:Int)∧j<KK.length∧(KK.getD j kz).dg=d):=by
 obtain⟨a,cap,rfl⟩:=hv.len
 have g1:=World.grownBy_alloc w (.cells #[.int .i64 room,.slice a KK.length cap] 30) none
 have B1:=Box.new 30 w (.int .i64 room) (.slice a KK.length cap)
 obtain⟨a',cap',e,ha⟩:=hv.kept g1
 simp only [Value.slice.injEq] at e
 obtain⟨rfl,_,rfl⟩:=e
 have HA:=hide ha
 have HG:=hide g1
 have b1:=B1.c1
 clear ha g1 B1 hv
 generalize hW:w.alloc (.cells #[.int .i64 room,.slice a KK.length cap] 30)=W1 at *
 go_enter Tryz.func89,Tryz.ntmps89
 go_upto_region 1 with fail
 clear hW
 generalize w.heap.size=cb at *
 go_wp2_with fail
 go_loopw [5] (fun i wr=>∃ j:Nat,j≤KK.length∧i=.int .i64 j∧wr=W1∧Hid (newTo KK d j=true)) (fun i _=>KK.length - (intOf i).toNat)
 case atStart=>exact⟨0,Nat.zero_le _,rfl,rfl,rfl⟩
 case round =>
  obtain⟨j,hj,rfl,rfl,hk⟩:=hrel
  by_cases hlt:j<KK.length
  ·rcases unhide HA with h | ⟨b,off,rfl,hb,hcb⟩
   ·rw [h] at hlt
    simp at hlt
   ·obtain⟨u,hu⟩:=hcb j hlt
    have c0:=hu.1
    have hi':(j:Int)<(KK.length:Int):=by omega
    have hnn:newTo KK d (j+1)=(newTo KK d j && !((KK.getD j kz).dg.data.toList == d.data.toList)):=rfl
    generalize hq:(KK.getD j kz).dg=dk at *
    by_cases heq:dk=d
    ·subst heq
     have hqq:(dk.toList == dk.toList)=true:=beq_self_eq_true _
     have R:Hid ((KK.getD j kz).dg=dk):=hq
     clear hcb hu hnn hk HA hq
     go_wp2_with fail
     go_ret
     exact⟨_,rfl,unhide HG,.inr ⟨j,rfl,hlt,unhide R⟩⟩
    ·have hqq:(dk.toList == d.toList)=false:=toList_ne heq
     have HN:Hid (newTo KK d (j+1)=true):=by
      show _=_
      rw [hnn,unhide hk]
      have:(dk.data.toList == d.data.toList)=false:=by
       cases hx:(dk.data.toList == d.data.toList)
       ·rfl
       ·exact absurd (dg_eq.1 hx) heq
      rw [this]
      rfl
     clear hcb hu hnn hk HA hq
     go_wp2_with fail
     go_roundw
     case rel=>exact⟨j+1,by omega,by go_num,trivial,HN⟩
     case measure=>simp [intOf];omega
  ·have hi':¬ (j:Int)<(KK.length:Int):=by omega
   have hjj:j=KK.length:=by omega
   have R:Hid (newTo KK d KK.length=true):=by show _=_;rw [←hjj];exact unhide hk
   clear hk hjj HA
   go_wp2_with fail
   go_ret
   exact⟨_,rfl,unhide HG,.inl ⟨rfl,unhide R⟩⟩
theorem RwK.form {lo:Nat}{w:World}{v:Value}{KK:List Kn}(h:RwK lo w v KK)(hn:0<KK.length):∃ g cap,v=.slice (some ⟨g,0,none⟩) KK.length cap∧KK.length≤cap∧g<w.heap.size:=by
 obtain⟨D,rfl,ho,hv⟩:=h
 rw [List.length_map] at *
 have ho':=ho
 obtain⟨_,h2⟩:=ho
 rcases h2 with ⟨rfl,h0⟩ | ⟨g,cap,cur,rfl,hg,hh,hc,_⟩
 ·omega
 ·exact⟨g,cap,rfl,by omega,(Array.getElem?_eq_some_iff.1 hh).1⟩
set_option maxHeartbeats 1600000 in
theorem l10Out (v:Value)(KK:List Kn)(j:Nat)(w:World)(lo0:Nat)(hn:KK.length≤1048576)(hj:j<KK.length)(hv:RwK lo0 w v KK) :
  Calls Tryz.prog 90 #[v,.int .i64 (j:Int)] w fun e w'=>∃ u,e=.returned u∧RwK w.heap.size w' u (KK.take j++KK.drop (j+1))∧w.grownBy w' none:=by
 obtain⟨g,cap,rfl,hc,hg⟩:=hv.form (by omega)
 have P1:=(hv.parts rfl j (by omega)).1
 have P2:=(hv.parts rfl (j+1) (by omega)).2
 have gw:w.grownBy (w.alloc (.cells #[] 36)).drew none:=grown_trans (World.grownBy_alloc _ _ _) (cf.grown_drew _ none)
 have N1:=hide ((made_nilK w).kept (cf.grown_drew _ none))
 have G1:=hide gw
 have L1:=hide (P1.kept gw)
 have L2:=hide P2
 have m1:(KK.take j).length=j:=by rw [List.length_take];omega
 have hlo:w.heap.size≤(w.alloc (.cells #[] 36)).drew.heap.size:=gw.size
 obtain⟨i1,hi1⟩:∃ i1,i1=j+1:=⟨_,rfl⟩
 have m2:(KK.drop i1).length=KK.length - i1:=List.length_drop
 rw [←hi1] at L2 ⊢
 obtain⟨ad,hif,L3⟩:∃ ad:Addr,(if cap=i1 then (some ⟨g,0,none⟩:Option Addr) else some ⟨g,i1*4,none⟩)=some ad∧Lies w ad (KK.drop i1):=by
  by_cases h:cap=i1
  ·refine⟨⟨g,0,none⟩,if_pos h,?_⟩
   rw [List.drop_eq_nil_of_le (by omega)]
   exact Lies.nil _ _
  ·exact⟨⟨g,i1*4,none⟩,if_neg h,unhide L2⟩
 have L4:=hide L3
 have hml:(KK.take j).length+(KK.drop i1).length≤4194304:=by rw [m1,m2];omega
 have ML:=hide hml
 have M1:=hide m1
 have M2:=hide m2
 have hw1:IntKind.i64.wrap ((j:Int)+1)=(i1:Int):=by rw [IntKind.wrap_i64];omega
 have hj1:(0:Int)≤(j:Int):=by omega
 have hj2:(j:Int)≤(cap:Int):=by omega
 have hj3:(i1:Int)≤(KK.length:Int):=by omega
 have hj4:(KK.length:Int)≤(cap:Int):=by omega
 clear m1 m2 P1 P2 gw hv hi1 L2 L3 hml
 go_enter Tryz.func90,Tryz.ntmps90
 go_wp2_with fail
 go_region_law (first
  | (refine stepA (A:=[]) (unhide N1) (unhide L1) hlo (by rw [unhide M1];show 0+j≤_;omega) (by rfl) (.tmp 5) (.tmp 8) (by rfl) (by rfl) j (unhide M1) (by rfl) ?_;intro va n2 cap2 w2 h2 g2;have R2:=hide h2;have G2:=hide (grown_row (unhide G1) (unhide N1) g2);clear h2 g2)
  | (refine stepA (unhide R2) ((unhide L4).kept (unhide G2)) (unhide G2).size (unhide ML) (by rfl) (.tmp 9) (.tmp 13) (by rfl) (by rfl) (KK.length - i1) (unhide M2) (by rfl) ?_;intro va3 n3 cap3 w3 h3 g3;have R3:=hide (And.intro h3 (grown_row (unhide G2) (unhide R2) g3));clear h3 g3))
 all_goals
  go_wp2_with fail
  go_ret
  exact⟨_,rfl,unhide R3⟩
end Go.Proofs.YtnlllcgcaddhmaaGreatDoor.ua
namespace Go.Proofs.YtnlllcgcaddhmaaGreatDoor.ua
open Go.ChangeShapes Go.WideShapes Go.ChangeAt Go.RowKit
open sl (Sl Own ints marks hide unhide ret_int ret_bool grown_refl grown_trans grown_drewN below_of of_below)
open css (Outs outs_trans outs_none outs_by outs_refl own_mono own_sub own_outs own_kind)
open yb (Box4)
open cf (Box)
set_option linter.unusedVariables false
def FindS (w:World)(room:Int)(KK:List Kn)(d:ByteArray)(e:Ending)(w':World):Prop:=∃ u v,e=.returned (.tuple #[.agg #[.int .i64 room,u],.agg #[.string (fndK room KK d).dg,.bool (fndK room KK d).sat,v,.int .i64 (fndK room KK d).cost],.bool (fndB room KK d)])∧Vl w' v (fndK room KK d).vals∧RwK w.heap.size w' u (fndL room KK d)∧w.grownBy w' none
theorem types3:(3:Nat)≠30∧(3:Nat)≠36:=by decide
theorem Vl.outs {lo hi:Nat}{w w':World}{u:Value}{L:List Int}(h:Vl w u L)(o:Outs lo hi w w')(hb:∀ c,lo≤c→c<hi→∃ cs t fz,w.heap[c]?=some (.cells cs t fz)∧(3:Nat)≠t):Vl w' u L:=by
 obtain⟨l,hi',hu⟩:=h
 refine⟨l,hi',?_,hu.2⟩
 have hu':=hu.1
 obtain⟨h1,h2⟩:=hu.1
 refine⟨h1,?_⟩
 rcases h2 with h2 | ⟨b,cap,cur,rfl,hg,hh,r⟩
 ·exact .inl h2
 ·refine .inr ⟨b,cap,cur,rfl,hg,?_,r⟩
  have l1:=hu'.lt b rfl
  rw [o.block b l1.2 ?_]
  ·exact hh
  ·by_cases q1:b<lo
   ·exact .inl q1
   ·by_cases q2:hi≤b
    ·exact .inr q2
    ·obtain⟨cs,t,fz,hc,n2⟩:=hb b (by omega) (by omega)
     rw [hh] at hc
     simp only [Option.some.injEq,Obj.cells.injEq] at hc
     exact absurd hc.2.1 n2
theorem Vl.setBox {w:World}{u x y z:Value}{L:List Int}{c i:Nat}(h:Vl w u L)(hb:Box 30 w c x y):Vl (w.setCell ⟨c,i,none⟩ z) u L:=by
 refine h.outs (outs_by (lo:=c) (hi:=c+1) (sl.grown_setCell _ _ _ _) (fun k e=>by cases e;omega)) (fun k h1 h2=>?_)
 obtain rfl:k=c:=by omega
 exact⟨_,_,_,hb,types3.1⟩
theorem RwK.outs {lo hi:Nat}{w w':World}{v:Value}{KK:List Kn}{lo0:Nat}(h:RwK lo0 w v KK)(o:Outs lo hi w w')(hlo:hi≤lo0)(hb:∀ c,lo≤c→c<hi→∃ cs t fz,w.heap[c]?=some (.cells cs t fz)∧(3:Nat)≠t):RwK lo0 w' v KK:=by
 obtain⟨D,e,ho,hv⟩:=h
 exact⟨D,e,row_outs ho (fun k e=>(ho.lt k e).2) o (.inr hlo),fun p hp=>(hv p hp).outs o hb⟩
theorem lies_one {w:World}{u:Value}{k:Kn}(h:Vl w u k.vals):Lies (w.alloc (.cells #[.string k.dg,.bool k.sat,u,.int .i64 k.cost] 36)) ⟨w.heap.size,0,none⟩ [k]:=by
 refine⟨[(u,k)],rfl,fun j y hj=>four_at w u k j y (by simpa [cells4] using hj),fun p hp=>?_⟩
 rw [List.mem_singleton] at hp
 subst hp
 exact h.kept (World.grownBy_alloc _ _ _)
def CutF (w W6 wx:World)(room:Int)(kb:Nat)(y:Value)(k:Kn)(LL:List Kn):Prop :=
 ∃ a n c,Box 30 wx w.heap.size (.int .i64 room) (.slice a n c)∧Box 30 wx (w.heap.size+1) (.int .i64 0) (.slice none 0 0)∧Box4 36 wx (w.heap.size+1+1) (.string ⟨#[]⟩) (.bool false) (.slice none 0 0) (.int .i64 0)∧Box4 36 wx kb (.string k.dg) (.bool k.sat) y (.int .i64 k.cost)∧RwK W6.heap.size wx (.slice a n c) (LL++[k])∧Vl wx y k.vals∧w.grownBy wx none∧W6.heap.size≤wx.heap.size
theorem kinds2 {w:World}{c:Nat}{x y a b q z:Value}(R:Box 30 w c x y)(Q:Box4 36 w (c+1) a b q z):∀ k,c≤k→k<c+2→∃ cs t fz,w.heap[k]?=some (.cells cs t fz)∧(3:Nat)≠t:=by
 intro k h1 h2
 rcases (show k=c∨k=c+1 by omega) with rfl | rfl
 ·exact⟨_,_,_,R,types3.1⟩
 ·exact⟨_,_,_,Q,types3.2⟩
set_option maxRecDepth 10000 in
set_option maxHeartbeats 4000000 in
theorem specCacheFind (v:Value)(room:Int)(KK:List Kn)(d:ByteArray)(w:World)(hn:tot KK≤1048576)(hv:VKns w v KK) :
  Calls Tryz.prog 44 #[.agg #[.int .i64 room,v],.string d] w fun e w'=>FindS w room KK d e w':=by
 have h1:=Nat.le_trans (tot_len KK) hn
 have h2:=fun i=>Nat.le_trans (tot_vals KK i) hn
 obtain⟨a,cap,rfl⟩:=hv.len
 obtain⟨W1,hW1⟩:∃ W1,W1=((w.alloc (.cells #[.int .i64 room,.slice a KK.length cap] 30)).alloc (.cells #[.int .i64 0,.slice none 0 0] 30)).alloc (.cells #[.string ⟨#[]⟩,.bool false,.slice none 0 0,.int .i64 0] 36):=⟨_,rfl⟩
 have g1:w.grownBy W1 none:=by rw [hW1];exact grown_trans (grown_trans (World.grownBy_alloc _ _ _) (World.grownBy_alloc _ _ _)) (World.grownBy_alloc _ _ _)
 have s1:W1.heap.size=w.heap.size+1+1+1:=by rw [hW1];simp only [World.size_alloc]
 have B1:Box 30 W1 w.heap.size (.int .i64 room) (.slice a KK.length cap):=by rw [hW1];exact ((Box.new _ _ _ _).kept (World.grownBy_alloc _ _ none)).kept (World.grownBy_alloc _ _ none)
 have R1:Box 30 W1 (w.heap.size+1) (.int .i64 0) (.slice none 0 0):=by
  rw [hW1]
  have:=(Box.new 30 (w.alloc (.cells #[.int .i64 room,.slice a KK.length cap] 30)) (.int .i64 0) (.slice none 0 0)).kept (World.grownBy_alloc _ (.cells #[.string ⟨#[]⟩,.bool false,.slice none 0 0,.int .i64 0] 36) none)
  rw [World.size_alloc] at this
  exact this
 have Q1:Box4 36 W1 (w.heap.size+1+1) (.string ⟨#[]⟩) (.bool false) (.slice none 0 0) (.int .i64 0):=by
  rw [hW1]
  have:=Box4.new 36 ((w.alloc (.cells #[.int .i64 room,.slice a KK.length cap] 30)).alloc (.cells #[.int .i64 0,.slice none 0 0] 30)) (.string ⟨#[]⟩) (.bool false) (.slice none 0 0) (.int .i64 0)
  rw [World.size_alloc,World.size_alloc] at this
  exact this
 have CC:=hide (l10Copy (.slice a KK.length cap) room KK W1 h1 h2 (hv.kept g1))
 have HG:=hide g1
 have HB1:=hide B1
 have HR1:=hide R1
 have HQ1:=hide Q1
 have b0:=B1.c0
 have b1:=B1.c1
 rw [hW1] at b0 b1
 clear g1 B1 R1 Q1 hv
 go_enter Tryz.func44,Tryz.ntmps44
 go_upto_region 1 with fail
 rw [←hW1] at b0 b1 ⊢
 clear hW1
 go_wp2_with fail
 refine (unhide CC).mono ?_;rintro e w2 ⟨u2,rfl,o2,g2⟩
 obtain⟨ua,uc,rfl⟩:=o2.len
 have B2:=(unhide HB1).kept g2
 have p0:=B2.c0
 have p1:=B2.c1
 have pf0:=B2.f 0
 have pf1:=B2.f 1
 obtain⟨W3,hW3⟩:∃ W3,W3=(w2.setCell ⟨w.heap.size,0,none⟩ (.int .i64 room)).setCell ⟨w.heap.size,1,none⟩ (.slice ua KK.length uc):=⟨_,rfl⟩
 have B3:Box 30 W3 w.heap.size (.int .i64 room) (.slice ua KK.length uc):=by rw [hW3];exact (B2.set0 _).set1 _
 have R3:Box 30 W3 (w.heap.size+1) (.int .i64 0) (.slice none 0 0):=by rw [hW3];exact (((unhide HR1).kept g2).setO (by omega)).setO (by omega)
 have Q3:Box4 36 W3 (w.heap.size+1+1) (.string ⟨#[]⟩) (.bool false) (.slice none 0 0) (.int .i64 0):=by rw [hW3];exact (((unhide HQ1).kept g2).setO (by omega)).setO (by omega)
 have O3:OwnK W1.heap.size w2.heap.size W3 (.slice ua KK.length uc) KK:=by rw [hW3];exact ownK_set (ownK_set o2 (by omega)) (by omega)
 have G3:w.grownBy W3 none:=by rw [hW3];exact cf.grown_set (cf.grown_set (grown_trans (r:=none) (unhide HG) g2) (Nat.le_refl _)) (Nat.le_refl _)
 have s3:W3.heap.size=w2.heap.size:=by rw [hW3,cf.size_set,cf.size_set]
 have z2:=g2.size
 have RK:=O3.rwk
 have HG3:=hide G3
 have HR3:=hide R3
 have HQ3:=hide Q3
 have HB3:=hide B3
 have HRK:=hide RK
 have CA:=hide (l10At (.slice ua KK.length uc) room KK d W3 h1 O3.kns)
 clear CC b0 b1 o2 g2 B2 HB1 HR1 HQ1 HG R3 Q3 O3 G3 RK
 go_upto_region 2 with fail
 rw [←hW3]
 clear hW3 p0 p1 pf0 pf1
 have b0:=B3.c0
 have b1:=B3.c1
 clear B3
 go_wp2_with fail
 refine (unhide CA).mono ?_;rintro e w4 ⟨r,rfl,g4,hr⟩
 have CK:=hide (specCacheOk (.slice ua KK.length uc) room KK w4 h1 ((unhide HRK).kept g4).vkns.kns)
 have HB4:=hide ((unhide HB3).kept g4)
 have G4:=hide g4
 clear b0 b1 CA g4
 have b0:=(unhide HB4).c0
 have b1:=(unhide HB4).c1
 go_wp2_with fail
 refine (unhide CK).mono ?_;rintro e w5 ⟨rfl,g5⟩
 have G5:=hide (grown_trans (r:=none) (unhide G4) g5)
 have B5:=hide ((unhide HB3).kept (unhide G5))
 have R5:=hide ((unhide HR3).kept (unhide G5))
 have Q5:=hide ((unhide HQ3).kept (unhide G5))
 have K5:=hide ((unhide HRK).kept (unhide G5))
 have GW:=hide (grown_trans (r:=none) (unhide HG3) (unhide G5))
 have z5:=(unhide G5).size
 clear b0 b1 CK g5 G4 HB4 HB3 HR3 HQ3 HRK HG3
 have b0:=(unhide B5).c0
 have b1:=(unhide B5).c1
 have r0:=(unhide R5).c0
 have r1:=(unhide R5).c1
 have rf0:=(unhide R5).f 0
 have rf1:=(unhide R5).f 1
 have q0:=(unhide Q5).c0
 have q1:=(unhide Q5).c1
 have q2:=(unhide Q5).c2
 have q3:=(unhide Q5).c3
 have qf0:=(unhide Q5).f 0
 have qf1:=(unhide Q5).f 1
 have qf2:=(unhide Q5).f 2
 have qf3:=(unhide Q5).f 3
 cases hok:okC room KK
 ·have hb:fndB room KK d=false:=by unfold fndB;rw [hok];rfl
  have HK:Hid (fndK room KK d=kz):=by show _=_;unfold fndK;rw [hb];rfl
  have HL:Hid (fndL room KK d=KK):=by show _=_;unfold fndL;rw [hb];rfl
  have HB:=hide hb
  clear hr hb
  go_wp2_with fail
  (try simp only [Exit.inBlock,Exit.then])
  obtain⟨RR,QQ,gO,sz⟩:=put6 (unhide R5) (unhide Q5) (.int .i64 room) (.slice ua KK.length uc) (.string ⟨#[]⟩) (.bool false) (.slice none 0 0) (.int .i64 0)
  refine bodyPost_ret (ret_find rfl rfl rfl RR QQ) rfl ⟨_,_,by rw [unhide HK,unhide HB];rfl,by rw [unhide HK];exact⟨0,0,own_none _ _ _⟩,?_,grown_outs (unhide GW) gO (by omega)⟩
  rw [unhide HL]
  exact ((unhide K5).outs gO (by omega) (kinds2 (unhide R5) (unhide Q5))).sub (by omega)
 ·rcases hr with ⟨rfl,hnew⟩ | ⟨j,rfl,hj,ej⟩
  ·have hb:fndB room KK d=false:=by unfold fndB;rw [hok,hnew];rfl
   have HK:Hid (fndK room KK d=kz):=by show _=_;unfold fndK;rw [hb];rfl
   have HL:Hid (fndL room KK d=KK):=by show _=_;unfold fndL;rw [hb];rfl
   have HB:=hide hb
   clear hnew hb
   go_wp2_with fail
   (try simp only [Exit.inBlock,Exit.then])
   obtain⟨RR,QQ,gO,sz⟩:=put6 (unhide R5) (unhide Q5) (.int .i64 room) (.slice ua KK.length uc) (.string ⟨#[]⟩) (.bool false) (.slice none 0 0) (.int .i64 0)
   refine bodyPost_ret (ret_find rfl rfl rfl RR QQ) rfl ⟨_,_,by rw [unhide HK,unhide HB];rfl,by rw [unhide HK];exact⟨0,0,own_none _ _ _⟩,?_,grown_outs (unhide GW) gO (by omega)⟩
   rw [unhide HL]
   exact ((unhide K5).outs gO (by omega) (kinds2 (unhide R5) (unhide Q5))).sub (by omega)
  ·obtain⟨hr0,hr1,hr2,hdist⟩:=okC_parts hok
   have hnw:newTo KK d KK.length=false:=by
    cases q:newTo KK d KK.length
    ·rfl
    ·exact absurd ej ((newTo_iff KK d _).1 q j hj)
   have hb:fndB room KK d=true:=by unfold fndB;rw [hok,hnw];rfl
   have eK:=ent_at hdist j hj ej
   have HK:Hid (fndK room KK d=KK.getD j kz):=by show _=_;unfold fndK;rw [hb,←eK];rfl
   have HL:Hid (fndL room KK d=(KK.take j++KK.drop (j+1))++[KK.getD j kz]):=by show _=_;unfold fndL;rw [hb,←eK,erase_filter hdist j hj ej];rfl
   have HB:=hide hb
   have hL:=h2 j
   have hll:Hid ((KK.take j++KK.drop (j+1)).length + [KK.getD j kz].length≤4194304):=by
    show _≤_
    rw [List.length_append,List.length_take,List.length_drop,List.length_singleton]
    omega
   obtain⟨a9,cap9,e9,hh⟩:=(unhide K5).vkns
   simp only [Value.slice.injEq] at e9
   obtain⟨rfl,_,rfl⟩:=e9
   rcases hh with h | ⟨b,off,rfl,hbb,hcb⟩
   ·rw [h] at hj
    simp at hj
   obtain⟨y,hy,hvl⟩:=hcb j hj
   obtain⟨c0,c1,c2,c3,_⟩:=hy
   generalize KK.getD j kz=x at *
   obtain⟨dg,sat,vals,cost⟩:=x
   dsimp only at *
   obtain⟨ya,yc,rfl,hzz⟩:=hvl.sl
   obtain⟨W6,hW6⟩:∃ W6,W6=w5.alloc (.cells #[.string dg,.bool sat,.slice ya vals.length yc,.int .i64 cost] 36):=⟨_,rfl⟩
   have g6:w5.grownBy W6 none:=by rw [hW6];exact World.grownBy_alloc _ _ _
   have s6:W6.heap.size=w5.heap.size+1:=by rw [hW6,World.size_alloc]
   have X6:Box4 36 W6 w5.heap.size (.string dg) (.bool sat) (.slice ya vals.length yc) (.int .i64 cost):=by rw [hW6];exact Box4.new _ _ _ _ _ _
   have B6:=(unhide B5).kept g6
   have HB6:=hide B6
   have HR6:=hide ((unhide R5).kept g6)
   have HQ6:=hide ((unhide Q5).kept g6)
   have HX6:=hide X6
   have HV6:=hide (hvl.kept g6)
   have HG6:=hide (grown_trans (r:=none) (unhide GW) g6)
   have CO:=hide (fun W (g:W6.grownBy W none)=>l10Out (.slice (some ⟨b,off,none⟩) KK.length uc) KK j W _ h1 hj ((unhide K5).kept (grown_trans (r:=none) g6 g)))
   have hi':(j:Int)<(KK.length:Int):=by omega
   have hj0:¬ (j:Int)<0:=by omega
   clear hr0 hr1 hr2 hdist hnw hb eK hzz hvl hcb g6 B5 R5 Q5 GW K5 r0 r1 rf0 rf1 q0 q1 q2 q3 qf0 qf1 qf2 qf3 B6 X6 ej hok h1 h2
   go_upto_region 6 with fail
   rw [←hW6]
   clear hW6 c0 c1 c2 c3 b0 b1
   have S6:=hide s6
   clear s6
   generalize hkb:w5.heap.size=kb at *
   have zkb:=hide hkb
   clear hkb
   generalize hLL:KK.take j++KK.drop (j+1)=LL at *
   clear hLL
   obtain⟨X,hX⟩:∃ X:Obj,X=.cells #[.string dg,.bool sat,.slice ya vals.length yc,.int .i64 cost] 36:=⟨_,rfl⟩
   have gA:=World.grownBy_alloc W6 X none
   have gAd:W6.grownBy (W6.alloc X).drew none:=grown_trans gA (cf.grown_drew _ none)
   have b1:=(unhide HB6).c1
   have b1a:=((unhide HB6).kept gA).c1
   have x0:=(unhide HX6).c0
   have x1:=(unhide HX6).c1
   have x2:=(unhide HX6).c2
   have x3:=(unhide HX6).c3
   have GD:=hide (cf.grown_drew W6 none)
   have GA:=hide gAd
   have LA:Hid (Lies (W6.alloc X).drew ⟨W6.heap.size,0,none⟩ [⟨dg,sat,vals,cost⟩]):=by rw [hX];exact (lies_one (unhide HV6)).kept (cf.grown_drew _ none)
   have after:Hid (∀ w7 u7 W,W6.grownBy W none→RwK W.heap.size w7 u7 LL→W.grownBy w7 none→W6.grownBy w7 none∧RwK W6.heap.size w7 u7 LL):=fun w7 u7 W h1 h2 h3=>⟨grown_trans h1 h3,h2.sub h1.size⟩
   clear gA gAd
   subst hX
   have hkb2:w.heap.size+1+1<kb:=by have:=unhide zkb;omega
   go_cut [34] (fun q wx=>Hid (CutF w W6 wx room kb (.slice ya vals.length yc) ⟨dg,sat,vals,cost⟩ LL))
   case first =>
    go_region_law (first
     | (go_simp;go_at_call 90;first | (refine (unhide CO _ (unhide GD)).mono ?_;rintro e w7 ⟨u7,rfl,r7,g7⟩;obtain⟨a7,c7,rfl⟩:=r7.len;have R7:=hide (unhide after _ _ _ (unhide GD) r7 g7);have x0:=((unhide HX6).kept (unhide R7).1).c0;have x1:=((unhide HX6).kept (unhide R7).1).c1;have x2:=((unhide HX6).kept (unhide R7).1).c2;have x3:=((unhide HX6).kept (unhide R7).1).c3;clear r7 g7) | (refine (unhide CO _ (unhide GA)).mono ?_;rintro e w7 ⟨u7,rfl,r7,g7⟩;obtain⟨a7,c7,rfl⟩:=r7.len;have R7:=hide (unhide after _ _ _ (unhide GA) r7 g7);have L7:=hide ((unhide LA).kept g7);clear r7 g7))
     | (refine stepA (unhide R7).2 (unhide L7) (unhide R7).1.size (unhide hll) (by rfl) (.tmp 31) (.tmp 33) (by rfl) (by rfl) 1 rfl (by rfl) ?_;intro a8 n8 c8 w8 r8 g8;have R8:=hide (And.intro r8 (grown_row (unhide R7).1 (unhide R7).2 g8));clear r8 g8;have B8:=hide ((unhide HB6).kept (unhide R8).2);have y1:=(unhide B8).c1;have yf:=(unhide B8).f 1)
     | (refine stepA ((unhide R7).2.kept (World.grownBy_alloc w7 _ none)) (lies_one ((unhide HV6).kept (unhide R7).1)) (Nat.le_trans (unhide R7).1.size (World.grownBy_alloc w7 _ none).size) (unhide hll) (by rfl) (.tmp 31) (.tmp 33) (by rfl) (by rfl) 1 rfl (by rfl) ?_;intro a8 n8 c8 w8 r8 g8;have R8:=hide (And.intro r8 (grown_row (grown_trans (unhide R7).1 (World.grownBy_alloc w7 _ none)) ((unhide R7).2.kept (World.grownBy_alloc w7 _ none)) g8));clear r8 g8;have B8:=hide ((unhide HB6).kept (unhide R8).2);have y1:=(unhide B8).c1;have yf:=(unhide B8).f 1))
    all_goals
     go_wp2_with fail
     go_meet
     have hb8:=unhide B8
     refine⟨a8,n8,c8,hb8.set1 _,((unhide HR6).kept (unhide R8).2).setO (by omega),((unhide HQ6).kept (unhide R8).2).setO (by omega),((unhide HX6).kept (unhide R8).2).setO (by omega),?_,?_,?_,?_⟩
     ·exact (unhide R8).1.by (sl.grown_setCell _ _ _ _) hb8 cache_ty.1 cache_ty.2
     ·exact ((unhide HV6).kept (unhide R8).2).setBox hb8
     ·exact cf.grown_set (grown_trans (r:=none) (unhide HG6) (unhide R8).2) (Nat.le_refl _)
     ·rw [cf.size_set]
      exact (unhide R8).2.size
   case rest =>
    obtain⟨a8,n8,c8,B8,R8,Q8,X8,K8,V8,G8,z8⟩:=unhide hcut
    have gd:=cf.grown_drew wc none
    have C8:=hide (l10CopyKnown (.slice ya vals.length yc) ⟨dg,sat,vals,cost⟩ wc.drew hL (V8.kept gd))
    dsimp only at C8
    have b0:=B8.c0
    have b1:=B8.c1
    have x0:=X8.c0
    have x1:=X8.c1
    have x2:=X8.c2
    have x3:=X8.c3
    have HR8:=hide (R8.kept gd)
    have HQ8:=hide (Q8.kept gd)
    have HB8:=hide (B8.kept gd)
    have HX8:=hide (X8.kept gd)
    have HK8:=hide (K8.kept gd)
    have HG8:=hide (grown_trans (r:=none) G8 gd)
    have n1:¬ kb=w.heap.size+1:=by omega
    have n2:¬ w.heap.size+1=kb:=by omega
    have n3:¬ w.heap.size=w.heap.size+1:=by omega
    have z6:=unhide S6
    have z7:=unhide zkb
    clear B8 R8 Q8 X8 K8 V8 G8 gd hcut HV6 HX6 HB6 HR6 HQ6 HG6 CO after LA GA GD x0 x1 x2 x3
    have x0:=(unhide HX8).c0
    have x1:=(unhide HX8).c1
    have x2:=(unhide HX8).c2
    have x3:=(unhide HX8).c3
    have b0:=(unhide HB8).c0
    have b1:=(unhide HB8).c1
    go_wp2_with fail
    go_region_with (first
     | (go_at_call 91;refine (unhide C8).mono ?_;rintro e w9 ⟨v9,rfl,o9,g9⟩;obtain⟨va9,vc9,rfl,_⟩:=Sl.of_own o9;have R9:=hide ((unhide HR8).kept g9);have Q9:=hide ((unhide HQ8).kept g9);have B9:=hide ((unhide HB8).kept g9);have K9:=hide ((unhide HK8).kept g9);have G9:=hide (grown_trans (r:=none) (unhide HG8) g9);have O9:Hid (Vl w9 (.slice va9 vals.length vc9) vals):=⟨_,_,Own.of o9⟩;have r0:=(unhide R9).c0;have r1:=(unhide R9).c1;have rf0:=(unhide R9).f 0;have rf1:=(unhide R9).f 1;have q0:=(unhide Q9).c0;have q1:=(unhide Q9).c1;have q2:=(unhide Q9).c2;have q3:=(unhide Q9).c3;have qf0:=(unhide Q9).f 0;have qf1:=(unhide Q9).f 1;have qf2:=(unhide Q9).f 2;have qf3:=(unhide Q9).f 3;have d0:=(unhide B9).c0;have d1:=(unhide B9).c1;clear g9 o9))
    all_goals
     go_wp2_with fail
     (try simp only [Exit.inBlock,Exit.then])
     obtain⟨RR,QQ,gO,sz⟩:=put6 (unhide R9) (unhide Q9) (.int .i64 room) (.slice a8 n8 c8) (.string dg) (.bool sat) (.slice va9 vals.length vc9) (.int .i64 cost)
     refine bodyPost_ret (ret_find rfl rfl rfl RR QQ) rfl ⟨_,_,by rw [unhide HK,unhide HB];rfl,?_,?_,grown_outs (unhide G9) gO (by omega)⟩
     ·rw [unhide HK]
      exact (unhide O9).outs gO (kinds2 (unhide R9) (unhide Q9))
     ·rw [unhide HL]
      exact ((unhide K9).outs gO (by omega) (kinds2 (unhide R9) (unhide Q9))).sub (by omega)
end Go.Proofs.YtnlllcgcaddhmaaGreatDoor.ua
namespace Go.Proofs.YtnlllcgcaddhmaaGreatDoor.ua
open Go.ChangeShapes Go.WideShapes Go.ChangeAt Go.RowKit Go.Maps Go.MuLone
open sl (Sl Own ints marks hide unhide ret_int ret_bool grown_refl grown_trans grown_drewN below_of of_below)
open css (Outs outs_trans outs_none outs_by outs_refl own_mono own_sub own_outs own_kind)
open yb (Box4)
open cf (Box)
set_option linter.unusedVariables false
def putOk (room:Int)(KK:List Kn)(k:Kn):Bool:=okC room KK && costB k.cost
def putK (room:Int)(KK:List Kn)(k:Kn):List Kn:=if putOk room KK k then putL room KK k else KK
theorem rest_le (KK:List Kn)(d:ByteArray):(rest KK d).length≤KK.length:=List.length_filter_le _ _
set_option maxRecDepth 10000 in
set_option maxHeartbeats 4000000 in
theorem implCachePut (v u:Value)(room:Int)(KK:List Kn)(k:Kn)(w:World)(hn:tot KK≤1048576)(hd:k.dg.size≤maxLen)(hL:k.vals.length≤1048576)(hv:VKns w v KK)(hu:Vl w u k.vals) :
  Calls Tryz.prog 33 #[.agg #[.int .i64 room,v],.agg #[.string k.dg,.bool k.sat,u,.int .i64 k.cost]] w fun e w'=>CacheE w room (putK room KK k) e w':=by
 have h1:=Nat.le_trans (tot_len KK) hn
 have h2:=fun i=>Nat.le_trans (tot_vals KK i) hn
 have h3:∀ i,(KK.getD i kz).dg.size≤maxLen:=fun i=>Nat.le_trans (tot_dg KK i) (Nat.le_trans hn (by decide))
 obtain⟨a,cap,rfl⟩:=hv.len
 obtain⟨ua,uc,rfl,hx⟩:=hu.sl
 clear hx
 obtain⟨W1,hW1⟩:∃ W1,W1=((w.alloc (.cells #[.int .i64 room,.slice a KK.length cap] 30)).alloc (.cells #[.string k.dg,.bool k.sat,.slice ua k.vals.length uc,.int .i64 k.cost] 36)).alloc (.cells #[.int .i64 0,.slice none 0 0] 30):=⟨_,rfl⟩
 have g1:w.grownBy W1 none:=by rw [hW1];exact grown_trans (grown_trans (World.grownBy_alloc _ _ _) (World.grownBy_alloc _ _ _)) (World.grownBy_alloc _ _ _)
 have s1:W1.heap.size=w.heap.size+1+1+1:=by rw [hW1];simp only [World.size_alloc]
 have B1:Box 30 W1 w.heap.size (.int .i64 room) (.slice a KK.length cap):=by rw [hW1];exact ((Box.new _ _ _ _).kept (World.grownBy_alloc _ _ none)).kept (World.grownBy_alloc _ _ none)
 have Q1:Box4 36 W1 (w.heap.size+1) (.string k.dg) (.bool k.sat) (.slice ua k.vals.length uc) (.int .i64 k.cost):=by
  rw [hW1]
  have:=(Box4.new 36 (w.alloc (.cells #[.int .i64 room,.slice a KK.length cap] 30)) (.string k.dg) (.bool k.sat) (.slice ua k.vals.length uc) (.int .i64 k.cost)).kept (World.grownBy_alloc _ (.cells #[.int .i64 0,.slice none 0 0] 30) none)
  rw [World.size_alloc] at this
  exact this
 have R1:Box 30 W1 (w.heap.size+1+1) (.int .i64 0) (.slice none 0 0):=by
  rw [hW1]
  have:=Box.new 30 ((w.alloc (.cells #[.int .i64 room,.slice a KK.length cap] 30)).alloc (.cells #[.string k.dg,.bool k.sat,.slice ua k.vals.length uc,.int .i64 k.cost] 36)) (.int .i64 0) (.slice none 0 0)
  rw [World.size_alloc,World.size_alloc] at this
  exact this
 have CS:=hide (shelfOf (.slice a KK.length cap) room KK W1 h1 h3 (hv.kept g1))
 have CC:=hide (fun w2 (g:W1.grownBy w2 none)=>copyCache (.slice a KK.length cap) room KK w2 h1 h2 (hv.kept (grown_trans (r:=none) g1 g)))
 have CK:=hide (fun w2=>costOk k.cost w2)
 have HU:=hide (hu.kept g1)
 have HG:=hide g1
 have HB1:=hide B1
 have HR1:=hide R1
 have HQ1:=hide Q1
 have b0:=B1.c0
 have b1:=B1.c1
 rw [hW1] at b0 b1
 clear g1 B1 R1 Q1 hv hu
 go_enter Tryz.func33,Tryz.ntmps33
 go_upto_region 1 with fail
 rw [←hW1] at b0 b1 ⊢
 clear hW1
 go_wp2_with fail
 refine (unhide CS).mono ?_;rintro e w2 ⟨s,bm,room',v',E,D,rfl,S2,hy,hno⟩
 have g2:=S2.g
 have B2:=(unhide HB1).kept g2
 have R2:=hide ((unhide HR1).kept g2)
 have Q2:=hide ((unhide HQ1).kept g2)
 have G2:=hide (grown_trans (r:=none) (unhide HG) g2)
 have C2:=hide (unhide CC w2 g2)
 have z2:=g2.size
 clear b0 b1 CS CC HB1 HQ1 g2
 have b0:=B2.c0
 have b1:=B2.c1
 have q0:=(unhide Q2).c0
 have q1:=(unhide Q2).c1
 have q2:=(unhide Q2).c2
 have q3:=(unhide Q2).c3
 clear B2
 by_cases hp:putOk room KK k=true
 ·have HL:Hid (putK room KK k=putL room KK k):=if_pos hp
  have hok:okC room KK=true:=by unfold putOk at hp;rw [Bool.and_eq_true] at hp;exact hp.1
  have hcb:costB k.cost=true:=by unfold putOk at hp;rw [Bool.and_eq_true] at hp;exact hp.2
  obtain⟨hr0,hr1,hr2,hdist⟩:=okC_parts hok
  obtain⟨e1,e2,e3⟩:=hy hok
  rw [e1,e2,e3] at S2
  have hdd:∀ i,((KK++[k]).getD i kz).dg.size≤maxLen:=by
   intro i
   by_cases q:i<KK.length
   ·rw [getD_snoc KK _ i q];exact h3 i
   ·by_cases q2:i=KK.length
    ·rw [q2,getD_last];exact hd
    ·rw [getD_out _ _ (by rw [List.length_append,List.length_singleton];omega)];exact Nat.zero_le _
  have hvv:∀ i,((KK++[k]).getD i kz).vals.length≤1048576:=by
   intro i
   by_cases q:i<KK.length
   ·rw [getD_snoc KK _ i q];exact h2 i
   ·by_cases q2:i=KK.length
    ·rw [q2,getD_last];exact hL
    ·rw [getD_out _ _ (by rw [List.length_append,List.length_singleton];omega)];exact Nat.zero_le _
  have hlen:(KK++[k]).length≤1048577:=by rw [List.length_append,List.length_singleton];omega
  have hsz:=size1 hdist k
  have hrl:=rest_le KK k.dg
  have hP:∃ (D':DataW Unit) (S:Nat→Bool),(Calls Tryz.prog 67 #[.pointer (some ⟨s,0,none⟩),.agg #[.string k.dg,.bool k.sat,.slice ua k.vals.length uc,.int .i64 k.cost]] w2 fun e w'=>e=.returned (.tuple #[])∧∃ v',Shf W1 w' s bm 0 room v' (KK++[k]) D')∧Maps.size D'≤1048577∧(∀ i,i<(KK++[k]).length→∃ c b,Told D' ((KK++[k]).getD i kz).dg c b∧S i=(b && (c == (i:Int))))∧filt S (KK++[k]) (KK++[k]).length=putL room KK k:=by
   by_cases hr:room<((rest KK k.dg).length:Int)+1
   ·obtain⟨hnew,hrest,hroom⟩:=full_new hdist k hr2 hr
    have hs2:=size2 hdist k hnew
    refine⟨_,fun i=>decide (0<i),putB s bm room v' KK _ W1 w2 _ k (d0 KK k) S2 h1 hd (unhide HU) (by rw [hsz];omega) rfl (hdd 0) (told0 hdist k hnew) (by rw [hs2];omega),by rw [hs2];omega,told2 hdist k hnew,?_⟩
    rw [filt2 _ _ (Nat.le_refl _),List.take_length]
    unfold putL
    rw [if_pos hr,hrest]
   ·refine⟨_,S1 KK k,putA s bm room v' KK _ W1 w2 _ k S2 h1 hd (unhide HU) (by rw [hsz];omega),by rw [hsz];omega,told1 hdist k,?_⟩
    rw [filt1]
    unfold putL
    rw [if_neg hr]
  obtain⟨D',S,hP1,hP2,hP3,hP4⟩:=hP
  have CP:=hide hP1
  have CO:=hide (fun (v4:Value) (W4:World) (S4:Shf W1 W4 s bm 0 room v4 (KK++[k]) D')=>cache s bm room v4 _ D' W1 W4 S S4 hlen hdd hvv hP2 hP3)
  rw [hP4] at CO
  rw [hcb] at CK
  have hsW:=S2.hs
  clear hP1 hP2 hP3 hP4 hlen hdd hvv hsz hrl hr0 hr1 hr2 hdist hp h1 h2 h3 hcb e1 e2 e3 hy hno S2 C2 HU
  go_wp2_with fail
  refine (unhide CK _).mono ?_;rintro e w' ⟨rfl,hw⟩;have hw':=hw.symm;clear hw;subst hw'
  go_wp2_with fail
  refine (unhide CP).mono ?_;rintro e w3 ⟨rfl,v3,S3⟩
  have C3:=hide (unhide CO v3 w3 S3)
  have g3:=S3.g
  have R3:=hide ((unhide HR1).kept g3)
  have G3:=hide (grown_trans (r:=none) (unhide HG) g3)
  have z3:=g3.size
  have l3:=S3.lt
  clear g3 S3 CP CO CK R2 G2 Q2 HR1 HG b0 b1 q0 q1 q2 q3
  have n3:(some s:Option Nat)≠some (w.heap.size+1+1):=by intro e;injection e;omega
  go_wp2_with fail
  refine (unhide C3).mono ?_;rintro e w6 ⟨u6,rfl,o6,g6⟩
  obtain⟨u6a,u6c,rfl⟩:=o6.len
  have R6:=hide ((unhide R3).by g6 n3)
  have G6:=hide (grown_in (unhide G3) g6 (by omega))
  have O6:=hide o6
  clear o6 g6 C3 R3 G3
  have r0:=(unhide R6).c0
  have r1:=(unhide R6).c1
  have rf0:=(unhide R6).f 0
  have rf1:=(unhide R6).f 1
  go_wp2_with fail
  (try simp only [Exit.inBlock,Exit.then])
  refine bodyPost_ret (ret_cache rfl rfl (((unhide R6).set0 (.int .i64 room)).set1 (.slice u6a (putL room KK k).length u6c))) rfl ⟨_,by rfl,?_,?_⟩
  ·rw [unhide HL,cf.size_set,cf.size_set]
   exact (ownK_set (ownK_set (unhide O6) (by omega)) (by omega)).sub (by omega) (Nat.le_refl _)
  ·exact cf.grown_set (cf.grown_set (unhide G6) (by omega)) (by omega)
 ·have HL:Hid (putK room KK k=KK):=if_neg hp
  clear h1 h2 h3 HU
  cases hok:okC room KK
  ·clear hp hy hno S2
   go_wp2_with fail
   refine (unhide C2).mono ?_;rintro e w5 ⟨u5,rfl,o5,g5⟩
   obtain⟨u5a,u5c,rfl⟩:=o5.len
   have G5:=hide (grown_trans (r:=none) (unhide G2) g5)
   have R5:=hide ((unhide R2).kept g5)
   have O5:=hide o5
   have z5:=g5.size
   clear g5 o5 C2 G2 R2 b0 b1 q0 q1 q2 q3
   have r0:=(unhide R5).c0
   have r1:=(unhide R5).c1
   have rf0:=(unhide R5).f 0
   have rf1:=(unhide R5).f 1
   go_wp2_with fail
   (try simp only [Exit.inBlock,Exit.then])
   refine bodyPost_ret (ret_cache rfl rfl (((unhide R5).set0 (.int .i64 room)).set1 (.slice u5a KK.length u5c))) rfl ⟨_,by rfl,?_,?_⟩
   ·rw [unhide HL,cf.size_set,cf.size_set]
    exact (ownK_set (ownK_set (unhide O5) (by omega)) (by omega)).sub (by omega) (Nat.le_refl _)
   ·exact cf.grown_set (cf.grown_set (unhide G5) (by omega)) (by omega)
  ·have hcb:costB k.cost=false:=by
    cases q:costB k.cost
    ·rfl
    ·exact absurd (show putOk room KK k=true by unfold putOk;rw [hok,q];rfl) hp
   rw [hcb] at CK
   clear hp hy hno S2 hcb
   go_wp2_with fail
   refine (unhide CK _).mono ?_;rintro e w' ⟨rfl,hw⟩;have hw':=hw.symm;clear hw;subst hw'
   go_wp2_with fail
   refine (unhide C2).mono ?_;rintro e w5 ⟨u5,rfl,o5,g5⟩
   obtain⟨u5a,u5c,rfl⟩:=o5.len
   have G5:=hide (grown_trans (r:=none) (unhide G2) g5)
   have R5:=hide ((unhide R2).kept g5)
   have O5:=hide o5
   have z5:=g5.size
   clear g5 o5 C2 G2 R2 b0 b1 q0 q1 q2 q3
   have r0:=(unhide R5).c0
   have r1:=(unhide R5).c1
   have rf0:=(unhide R5).f 0
   have rf1:=(unhide R5).f 1
   go_wp2_with fail
   (try simp only [Exit.inBlock,Exit.then])
   refine bodyPost_ret (ret_cache rfl rfl (((unhide R5).set0 (.int .i64 room)).set1 (.slice u5a KK.length u5c))) rfl ⟨_,by rfl,?_,?_⟩
   ·rw [unhide HL,cf.size_set,cf.size_set]
    exact (ownK_set (ownK_set (unhide O5) (by omega)) (by omega)).sub (by omega) (Nat.le_refl _)
   ·exact cf.grown_set (cf.grown_set (unhide G5) (by omega)) (by omega)
end Go.Proofs.YtnlllcgcaddhmaaGreatDoor.ua
namespace Go.Proofs.YtnlllcgcaddhmaaGreatDoor.ua
open Go.ChangeShapes Go.WideShapes Go.ChangeAt Go.RowKit
open sl (Sl Own ints marks hide unhide ret_int ret_bool grown_refl grown_trans grown_drewN below_of of_below)
open css (Outs outs_trans outs_none outs_by outs_refl own_mono own_sub own_outs own_kind)
open yb (Box4)
open cf (Box)
set_option linter.unusedVariables false
def MidP (w wx:World)(room:Int)(q:Value)(k:Kn)(LL:List Kn):Prop :=
 ∃ a n c,n=LL.length∧Box 30 wx w.heap.size (.int .i64 room) (.slice a n c)∧Box4 36 wx (w.heap.size+1) (.string k.dg) (.bool k.sat) q (.int .i64 k.cost)∧Box 30 wx (w.heap.size+1+1) (.int .i64 0) (.slice none 0 0)∧RwK (w.heap.size+1+1+1) wx (.slice a n c) LL∧Vl wx q k.vals∧w.grownBy wx none
theorem MidP.kept {w wx wy:World}{room:Int}{q:Value}{k:Kn}{LL:List Kn}(h:MidP w wx room q k LL)(g:wx.grownBy wy none):MidP w wy room q k LL:=by
 obtain⟨a,n,c,hn,b,x,r,e,v,h⟩:=h
 exact⟨a,n,c,hn,b.kept g,x.kept g,r.kept g,e.kept g,v.kept g,grown_trans h g⟩
theorem MidP.set {w wx wy:World}{room:Int}{q:Value}{k:Kn}{LL MM:List Kn}{a:Option Addr}{n c lo:Nat}(h:MidP w wx room q k LL)(g:wx.grownBy wy none)(e:RwK lo wy (.slice a n c) MM)(hlo:w.heap.size+1+1+1≤lo):MidP w (wy.setCell ⟨w.heap.size,1,none⟩ (.slice a n c)) room q k MM:=by
 obtain⟨a0,n0,c0,hn,b,x,r,e0,v,hg⟩:=h.kept g
 obtain⟨a',c',q'⟩:=e.len
 simp only [Value.slice.injEq] at q'
 exact⟨a,n,c,q'.2.1,b.set1 _,x.setO (by omega),r.setO (by omega),(e.sub hlo).by (sl.grown_setCell _ _ _ _) b cache_ty.1 cache_ty.2,v.setBox b,cf.grown_set hg (Nat.le_refl _)⟩
theorem MidP.app {w wx wy:World}{room:Int}{q:Value}{k:Kn}{LL MM:List Kn}{a a':Option Addr}{n c n' c':Nat}(h:MidP w wx room q k LL)(e:RwK (w.heap.size+1+1+1) wx (.slice a n c) LL)(g:wx.grownBy wy (Value.slice a n c).ownBlock)(e':RwK (w.heap.size+1+1+1) wy (.slice a' n' c') MM) :
  (∃ x,Box 30 wy w.heap.size (.int .i64 room) x)∧MidP w (wy.setCell ⟨w.heap.size,1,none⟩ (.slice a' n' c')) room q k MM:=by
 obtain⟨a0,n0,c0,hn,b,x,r,_,v,hg⟩:=h
 have lo:=e.lo
 have ne:∀ i,i<w.heap.size+1+1+1→(Value.slice a n c).ownBlock≠some i:=fun i hi q=>by have:=(lo i q).1;omega
 have b':=b.by g (ne _ (by omega))
 have x':=x.by g (ne _ (by omega))
 have r':=r.by g (ne _ (by omega))
 have v':Vl wy q k.vals:=by
  obtain⟨D,_,hw,_⟩:=e
  obtain⟨l,hi,hq⟩:=v
  exact⟨l,hi,hq.1.kept g (own_ne' hw hq.1),hq.2⟩
 have g':w.grownBy wy none:=⟨g.os.trans hg.os,g.tape.trans hg.tape,g.output.trans hg.output,Nat.le_trans hg.size g.size,fun i hi _=>by
  rw [g.block i (Nat.lt_of_lt_of_le hi hg.size) (fun e=>ne i (by omega) e.symm)]
  exact hg.block i hi (fun e=>by cases e)⟩
 obtain⟨p1,p2,p3⟩:=e'.len
 simp only [Value.slice.injEq] at p3
 exact⟨⟨_,b'⟩,a',n',c',p3.2.1,b'.set1 _,x'.setO (by omega),r'.setO (by omega),e'.by (sl.grown_setCell _ _ _ _) b' cache_ty.1 cache_ty.2,v'.setBox b',cf.grown_set g' (Nat.le_refl _)⟩
def PutT (w:World)(room:Int)(KK:List Kn)(e:Ending)(w':World):Prop:=∃ u lo,e=.returned (.agg #[.int .i64 room,u])∧RwK lo w' u KK∧w.grownBy w' none∧w.heap.size≤lo
theorem costB_in (c:Int):inB c 0 1000000=costB c:=rfl
set_option maxRecDepth 10000 in
set_option maxHeartbeats 4000000 in
theorem specCachePutT (v u:Value)(room:Int)(KK:List Kn)(k:Kn)(w:World)(hn:tot KK≤1048576)(hL:k.vals.length≤1048576)(hv:VKns w v KK)(hu:Vl w u k.vals) :
  Calls Tryz.prog 43 #[.agg #[.int .i64 room,v],.agg #[.string k.dg,.bool k.sat,u,.int .i64 k.cost]] w fun e w'=>PutT w room (putK room KK k) e w':=by
 have h1:=Nat.le_trans (tot_len KK) hn
 have h2:=fun i=>Nat.le_trans (tot_vals KK i) hn
 obtain⟨a,cap,rfl⟩:=hv.len
 obtain⟨ua,uc,rfl,hx⟩:=hu.sl
 clear hx
 obtain⟨W1,hW1⟩:∃ W1,W1=((w.alloc (.cells #[.int .i64 room,.slice a KK.length cap] 30)).alloc (.cells #[.string k.dg,.bool k.sat,.slice ua k.vals.length uc,.int .i64 k.cost] 36)).alloc (.cells #[.int .i64 0,.slice none 0 0] 30):=⟨_,rfl⟩
 have g1:w.grownBy W1 none:=by rw [hW1];exact grown_trans (grown_trans (World.grownBy_alloc _ _ _) (World.grownBy_alloc _ _ _)) (World.grownBy_alloc _ _ _)
 have s1:W1.heap.size=w.heap.size+1+1+1:=by rw [hW1];simp only [World.size_alloc]
 have B1:Box 30 W1 w.heap.size (.int .i64 room) (.slice a KK.length cap):=by rw [hW1];exact ((Box.new _ _ _ _).kept (World.grownBy_alloc _ _ none)).kept (World.grownBy_alloc _ _ none)
 have Q1:Box4 36 W1 (w.heap.size+1) (.string k.dg) (.bool k.sat) (.slice ua k.vals.length uc) (.int .i64 k.cost):=by
  rw [hW1]
  have:=(Box4.new 36 (w.alloc (.cells #[.int .i64 room,.slice a KK.length cap] 30)) (.string k.dg) (.bool k.sat) (.slice ua k.vals.length uc) (.int .i64 k.cost)).kept (World.grownBy_alloc _ (.cells #[.int .i64 0,.slice none 0 0] 30) none)
  rw [World.size_alloc] at this
  exact this
 have R1:Box 30 W1 (w.heap.size+1+1) (.int .i64 0) (.slice none 0 0):=by
  rw [hW1]
  have:=Box.new 30 ((w.alloc (.cells #[.int .i64 room,.slice a KK.length cap] 30)).alloc (.cells #[.string k.dg,.bool k.sat,.slice ua k.vals.length uc,.int .i64 k.cost] 36)) (.int .i64 0) (.slice none 0 0)
  rw [World.size_alloc,World.size_alloc] at this
  exact this
 have CC:=hide (l10Copy (.slice a KK.length cap) room KK W1 h1 h2 (hv.kept g1))
 have HU:=hide (hu.kept g1)
 have HG:=hide g1
 have HB1:=hide B1
 have HR1:=hide R1
 have HQ1:=hide Q1
 have b0:=B1.c0
 have b1:=B1.c1
 rw [hW1] at b0 b1
 clear g1 B1 R1 Q1 hv hu
 go_enter Tryz.func43,Tryz.ntmps43
 go_upto_region 1 with fail
 rw [←hW1] at b0 b1 ⊢
 clear hW1
 go_wp2_with fail
 refine (unhide CC).mono ?_;rintro e w2 ⟨u2,rfl,o2,g2⟩
 obtain⟨ea,ec,rfl⟩:=o2.len
 have B2:=(unhide HB1).kept g2
 have p0:=B2.c0
 have p1:=B2.c1
 have pf0:=B2.f 0
 have pf1:=B2.f 1
 obtain⟨W3,hW3⟩:∃ W3,W3=(w2.setCell ⟨w.heap.size,0,none⟩ (.int .i64 room)).setCell ⟨w.heap.size,1,none⟩ (.slice ea KK.length ec):=⟨_,rfl⟩
 have M3:MidP w W3 room (.slice ua k.vals.length uc) k KK:=by
  rw [hW3]
  have b':=B2.set0 (.int .i64 room)
  refine⟨ea,_,ec,rfl,b'.set1 _,(((unhide HQ1).kept g2).setO (by omega)).setO (by omega),(((unhide HR1).kept g2).setO (by omega)).setO (by omega),?_,(((unhide HU).kept g2).setBox B2).setBox b',cf.grown_set (cf.grown_set (grown_trans (r:=none) (unhide HG) g2) (Nat.le_refl _)) (Nat.le_refl _)⟩
  exact (((o2.rwk).by (sl.grown_setCell _ _ _ _) B2 cache_ty.1 cache_ty.2).by (sl.grown_setCell _ _ _ _) b' cache_ty.1 cache_ty.2).sub (by omega)
 have HM:=hide M3
 clear CC b0 b1 o2 g2 B2 HB1 HR1 HQ1 HG HU M3
 go_upto_region 2 with fail
 rw [←hW3]
 clear hW3 p0 p1 pf0 pf1 s1
 obtain⟨a3,n3,c3,e3,B3,X3,R3,K3,V3,G3⟩:=unhide HM
 subst e3
 have CK:=hide (specCacheOk (.slice a3 KK.length c3) room KK W3 h1 K3.vkns.kns)
 have CI:=hide (fun w=>l01In k.cost 0 1000000 w)
 rw [costB_in] at CI
 have b0:=B3.c0
 have b1:=B3.c1
 clear B3 X3 R3 K3 V3 G3
 go_wp2_with fail
 refine (unhide CK).mono ?_;rintro e w4 ⟨rfl,g4⟩
 have HM4:=hide ((unhide HM).kept g4)
 clear CK HM g4 b0 b1
 obtain⟨a4,n4,c4,e4,B4,X4,R4,K4,V4,G4⟩:=unhide HM4
 subst e4
 have b0:=B4.c0
 have b1:=B4.c1
 have x0:=X4.c0
 have x1:=X4.c1
 have x2:=X4.c2
 have x3:=X4.c3
 have r0:=R4.c0
 have r1:=R4.c1
 have rf0:=R4.f 0
 have rf1:=R4.f 1
 by_cases hp:putOk room KK k=true
 ·have HL:Hid (putK room KK k=putL room KK k):=if_pos hp
  have hok:okC room KK=true:=by unfold putOk at hp;rw [Bool.and_eq_true] at hp;exact hp.1
  have hcb:costB k.cost=true:=by unfold putOk at hp;rw [Bool.and_eq_true] at hp;exact hp.2
  obtain⟨hr0,hr1,hr2,hdist⟩:=okC_parts hok
  rw [hcb] at CI
  have CA:=hide (l10At (.slice a4 KK.length c4) room KK k.dg w4 h1 K4.vkns.kns)
  have HD:=hide hdist
  have HR2:=hide hr2
  clear hp B4 X4 R4 K4 V4 G4 hcb h2 hr0 hr1 hr2 hdist
  go_wp2_with fail
  refine (unhide CI _).mono ?_;rintro e w' ⟨rfl,hw⟩;have hw':=hw.symm;clear hw;subst hw'
  go_wp2_with fail
  refine (unhide CA).mono ?_;rintro e w5 ⟨r,rfl,g5,hr⟩
  have HM5:=hide ((unhide HM4).kept g5)
  clear CA CI HM4 g5 b0 b1 x0 x1 x2 x3 r0 r1 rf0 rf1
  rcases hr with ⟨rfl,hnew⟩ | ⟨j,rfl,hj,ej⟩
  case' inl =>
   have HM7:Hid (MidP w w5 room (.slice ua k.vals.length uc) k (rest KK k.dg)):=by
    rw [rest_new ((newTo_iff KK k.dg _).1 hnew)]
    exact HM5
   clear hnew HM5
   go_upto_region 7 with fail
   obtain⟨W7,hW7⟩:∃ W7,W7=w5:=⟨_,rfl⟩
   rw [←hW7] at HM7 ⊢
   clear hW7
  case' inr =>
   have HE:=hide (erase_filter (unhide HD) j hj ej)
   obtain⟨a5,n5,c5,e5,B5,X5,R5,K5,V5,G5⟩:=unhide HM5
   subst e5
   have C5:=hide (l10Out (.slice a5 KK.length c5) KK j w5 _ h1 hj K5)
   have b1:=B5.c1
   have hj0:¬ (j:Int)<0:=by omega
   have hj1:(0:Int)≤(j:Int):=by omega
   have z5:=R5.lt
   clear B5 X5 R5 K5 V5 G5 ej
   go_wp2_with fail
   refine (unhide C5).mono ?_;rintro e w6 ⟨u6,rfl,r6,g6⟩
   obtain⟨a6,c6,hr6⟩:=r6.len
   generalize (KK.take j++KK.drop (j+1)).length=n6 at hr6
   subst hr6
   obtain⟨a7,n7,c7,e7,B7,_⟩:=(unhide HM5).kept g6
   have y1:=B7.c1
   have yf:=B7.f 1
   obtain⟨W7,hW7⟩:∃ W7,W7=w6.setCell ⟨w.heap.size,1,none⟩ (.slice a6 n6 c6):=⟨_,rfl⟩
   have HM7:Hid (MidP w W7 room (.slice ua k.vals.length uc) k (rest KK k.dg)):=by
    rw [hW7,unhide HE]
    exact (unhide HM5).set g6 r6 (by omega)
   clear B7 r6 g6 C5 b1 HM5
   go_upto_region 7 with fail
   rw [←hW7]
   clear hW7 y1 yf
  all_goals
   have hrl:=rest_le KK k.dg
   have HLN:Hid ((rest KK k.dg).length + [k].length≤4194304):=by show _+1≤_;omega
   generalize hRR:rest KK k.dg=LL at *
   have HRR:=hide hRR
   clear hRR hrl
   obtain⟨a7,n7,c7,e7,B7,X7,R7,K7,V7,G7⟩:=unhide HM7
   clear e7
   have gd:=cf.grown_drew W7 none
   have C7:=hide (l10CopyKnown (.slice ua k.vals.length uc) k W7.drew hL (V7.kept gd))
   have MD:=hide ((unhide HM7).kept gd)
   have KD:=hide (K7.kept gd)
   have b1:=B7.c1
   have x0:=X7.c0
   have x1:=X7.c1
   have x2:=X7.c2
   have x3:=X7.c3
   have bd1:=(B7.kept gd).c1
   have z7:=R7.lt
   clear B7 X7 R7 K7 V7 G7 gd
   go_cut [34] (fun q wx=>Hid (MidP w wx room (.slice ua k.vals.length uc) k (LL++[k])))
   case first =>
    have AP:Hid (∀ w8 v8,W7.drew.grownBy w8 none→Vl w8 v8 k.vals→RwK (w.heap.size+1+1+1) (w8.alloc (.cells #[.string k.dg,.bool k.sat,v8,.int .i64 k.cost] 36)) (.slice a7 n7 c7) LL∧Lies (w8.alloc (.cells #[.string k.dg,.bool k.sat,v8,.int .i64 k.cost] 36)) ⟨w8.heap.size,0,none⟩ [k]∧w.heap.size+1+1+1≤(w8.alloc (.cells #[.string k.dg,.bool k.sat,v8,.int .i64 k.cost] 36)).heap.size∧MidP w (w8.alloc (.cells #[.string k.dg,.bool k.sat,v8,.int .i64 k.cost] 36)) room (.slice ua k.vals.length uc) k LL):=by
     intro w8 v8 g8 h8
     have ga:=World.grownBy_alloc w8 (.cells #[.string k.dg,.bool k.sat,v8,.int .i64 k.cost] 36) none
     have q1:=g8.size
     have q2:=ga.size
     have q3:W7.drew.heap.size=W7.heap.size:=rfl
     exact⟨((unhide KD).kept g8).kept ga,lies_one h8,by omega,((unhide MD).kept g8).kept ga⟩
    go_region_law (first
     | (go_simp;go_at_call 91;refine (unhide C7).mono ?_;rintro e w8 ⟨v8,rfl,o8,g8⟩;obtain⟨va8,vc8,rfl,_⟩:=Sl.of_own o8;have P8:=hide (unhide AP w8 (.slice va8 k.vals.length vc8) g8 ⟨_,_,Own.of o8⟩);have y1:=g8.cell bd1 (fun e=>by cases e);have y2:=(World.grownBy_alloc w8 (.cells #[.string k.dg,.bool k.sat,.slice va8 k.vals.length vc8,.int .i64 k.cost] 36) none).cell y1 (fun e=>by cases e);clear o8 g8)
     | (refine stepA (unhide P8).1 (unhide P8).2.1 (unhide P8).2.2.1 (unhide HLN) (by rfl) (.tmp 30) (.tmp 33) (by rfl) (by rfl) 1 rfl (by rfl) ?_;intro a9 n9 c9 w9 r9 g9;have R9:=hide (MidP.app (unhide P8).2.2.2 (unhide P8).1 g9 r9);obtain⟨x9,B9⟩:=(unhide R9).1;have q1:=B9.c1;have qf:=B9.f 1;clear r9 g9 B9))
    all_goals
     go_wp2_with fail
     go_meet
     exact (unhide R9).2
   case rest =>
    clear C7 MD KD b1 x0 x1 x2 x3 bd1 HM7 HLN
    by_cases hr:room<(LL.length:Int)+1
    ·obtain⟨hnew,hrest,hroom⟩:=full_new (unhide HD) k (unhide HR2) (by rw [unhide HRR];exact hr)
     have HPL:Hid (putL room KK k=(LL++[k]).drop 1):=by show _=_;unfold putL;rw [unhide HRR,if_pos hr]
     have hLLn:Hid (((LL++[k]).drop 1).length=KK.length):=by show _=_;rw [List.length_drop,List.length_append,List.length_singleton,Nat.add_sub_cancel,←unhide HRR,hrest]
     have hLL1:Hid ((LL++[k]).length=KK.length+1):=by show _=_;rw [List.length_append,List.length_singleton,←unhide HRR,hrest]
     obtain⟨a8,n8,c8,e8,B8,X8,R8,K8,V8,G8⟩:=unhide hcut
     obtain⟨g,c8',q8,hcc,hgg⟩:=K8.form (by rw [unhide hLL1];omega)
     simp only [Value.slice.injEq] at q8
     obtain⟨rfl,q9,rfl⟩:=q8
     have hn8:n8=KK.length+1:=by rw [e8];exact unhide hLL1
     have P1:=(K8.parts (by rw [e8]) 1 (by rw [unhide hLL1];omega)).2
     obtain⟨ad,hif,L1⟩:∃ ad:Addr,(if c8=1 then (some ⟨g,0,none⟩:Option Addr) else some ⟨g,4,none⟩)=some ad∧Lies wc ad ((LL++[k]).drop 1):=by
      by_cases h:c8=1
      ·refine⟨⟨g,0,none⟩,if_pos h,?_⟩
       rw [List.drop_eq_nil_of_le (by omega)]
       exact Lies.nil _ _
      ·exact⟨⟨g,4,none⟩,if_neg h,P1⟩
     have gA:=World.grownBy_alloc wc (.cells #[] 36) none
     have N1:=hide (made_nilK wc)
     have GA:=hide gA
     have LA:=hide (L1.kept gA)
     have hlo:=gA.size
     have b0:=B8.c0
     have b1:=B8.c1
     have b1a:=(B8.kept gA).c1
     have z8:=R8.lt
     have hq1:room<(n8:Int):=by omega
     have hq2:(1:Int)≤(n8:Int):=by omega
     have hq3:(n8:Int)≤(c8:Int):=by omega
     have hnm:Hid (((LL++[k]).drop 1).length=n8 - 1):=by show _=_;rw [unhide hLLn];omega
     have hsm:Hid (([]:List Kn).length+((LL++[k]).drop 1).length≤4194304):=by show 0+_≤_;rw [unhide hLLn];omega
     have hMn:=unhide hLLn
     generalize hMM:(LL++[k]).drop 1=MM at *
     clear hMM
     have HMn:=hide hMn
     clear hMn
     have HE8:=hide hn8
     have HRO:=hide hroom
     clear B8 X8 R8 K8 V8 G8 e8 q9 hcc hgg P1 L1 gA hn8 hroom hr hnew hrest
     go_wp2_with fail
     refine wp_loop_rounds 2 ?_
     rw [rounds_succ]
     go_wp2_with (at_builtin;refine listA (A:=[]) (unhide N1) (unhide LA) hlo (unhide hsm) (by rfl) (.tmp 42) (.tmp 45) (by rfl) (by rfl) (n8 - 1) (unhide hnm) (by rfl) ?_)
     intro a10 n10 c10 w10 r10 g10
     have G10:=grown_row (unhide GA) (unhide N1) g10
     obtain⟨ax,nx,cx,ex,Bx,_⟩:=(unhide hcut).kept G10
     have y1:=Bx.c1
     have yf:=Bx.f 1
     obtain⟨W11,hW11⟩:∃ W11,W11=w10.setCell ⟨w.heap.size,1,none⟩ (.slice a10 n10 c10):=⟨_,rfl⟩
     have HMX:Hid (MidP w W11 room (.slice ua k.vals.length uc) k MM):=by rw [hW11];exact (unhide hcut).set (lo:=wc.heap.size) G10 r10 (by omega)
     clear Bx r10 g10 G10 b0 b1 b1a N1 GA LA hif
     obtain⟨a9,n9,c9,e9,B9,X9,R9,K9,V9,G9⟩:=unhide HMX
     have b0:=B9.c0
     have b1:=B9.c1
     have r0:=R9.c0
     have r1:=R9.c1
     have rf0:=R9.f 0
     have rf1:=R9.f 1
     have RB:=hide ((R9.set0 (.int .i64 room)).set1 (.slice a9 n9 c9))
     have FN:Hid (PutT w room MM (.returned (.agg #[.int .i64 room,.slice a9 n9 c9])) ((W11.setCell ⟨w.heap.size+1+1,0,none⟩ (.int .i64 room)).setCell ⟨w.heap.size+1+1,1,none⟩ (.slice a9 n9 c9))):=⟨_,_,rfl,((K9.by (sl.grown_setCell _ _ _ _) R9 cache_ty.1 cache_ty.2).by (sl.grown_setCell _ _ _ _) (R9.set0 _) cache_ty.1 cache_ty.2),cf.grown_set (cf.grown_set G9 (by omega)) (by omega),by omega⟩
     have hq9:¬ room<(n9:Int):=by rw [e9,unhide HMn,unhide HRO];omega
     clear B9 X9 R9 K9 V9 G9 e9 hq1
     go_upto_region 8 with fail
     rw [←hW11]
     clear hW11 y1 yf
     rw [rounds_succ]
     go_wp2_with fail
     (try simp only [Exit.inBlock,Exit.then])
     refine bodyPost_ret (ret_cache rfl rfl (unhide RB)) rfl ?_
     rw [unhide HL,unhide HPL]
     exact unhide FN
    ·have HPL:Hid (putL room KK k=LL++[k]):=by show _=_;unfold putL;rw [unhide HRR,if_neg hr]
     have HMX:=hide (unhide hcut)
     obtain⟨a9,n9,c9,e9,B9,X9,R9,K9,V9,G9⟩:=unhide HMX
     have b0:=B9.c0
     have b1:=B9.c1
     have r0:=R9.c0
     have r1:=R9.c1
     have rf0:=R9.f 0
     have rf1:=R9.f 1
     have RB:=hide ((R9.set0 (.int .i64 room)).set1 (.slice a9 n9 c9))
     have FN:Hid (PutT w room (LL++[k]) (.returned (.agg #[.int .i64 room,.slice a9 n9 c9])) ((wc.setCell ⟨w.heap.size+1+1,0,none⟩ (.int .i64 room)).setCell ⟨w.heap.size+1+1,1,none⟩ (.slice a9 n9 c9))):=⟨_,_,rfl,((K9.by (sl.grown_setCell _ _ _ _) R9 cache_ty.1 cache_ty.2).by (sl.grown_setCell _ _ _ _) (R9.set0 _) cache_ty.1 cache_ty.2),cf.grown_set (cf.grown_set G9 (by omega)) (by omega),by omega⟩
     have hq:¬ room<(n9:Int):=by rw [e9,List.length_append,List.length_singleton];omega
     clear B9 X9 R9 K9 V9 G9 e9 hr
     go_wp2_with fail
     refine wp_loop_rounds 1 ?_
     rw [rounds_succ]
     go_wp2_with fail
     (try simp only [Exit.inBlock,Exit.then])
     refine bodyPost_ret (ret_cache rfl rfl (unhide RB)) rfl ?_
     rw [unhide HL,unhide HPL]
     exact unhide FN
 ·have HL:Hid (putK room KK k=KK):=if_neg hp
  have fin:Hid (PutT w room KK (.returned (.agg #[.int .i64 room,.slice a4 KK.length c4])) ((w4.setCell ⟨w.heap.size+1+1,0,none⟩ (.int .i64 room)).setCell ⟨w.heap.size+1+1,1,none⟩ (.slice a4 KK.length c4))):=⟨_,_,rfl,((K4.by (sl.grown_setCell _ _ _ _) R4 cache_ty.1 cache_ty.2).by (sl.grown_setCell _ _ _ _) (R4.set0 _) cache_ty.1 cache_ty.2),cf.grown_set (cf.grown_set G4 (by omega)) (by omega),by omega⟩
  have RB:=hide ((R4.set0 (.int .i64 room)).set1 (.slice a4 KK.length c4))
  clear B4 X4 R4 K4 V4 G4 h1 h2 HM4
  cases hok:okC room KK
  ·clear hp
   go_wp2_with fail
   (try simp only [Exit.inBlock,Exit.then])
   refine bodyPost_ret (ret_cache rfl rfl (unhide RB)) rfl ?_
   rw [unhide HL]
   exact unhide fin
  ·have hcb:costB k.cost=false:=by
    cases q:costB k.cost
    ·rfl
    ·exact absurd (show putOk room KK k=true by unfold putOk;rw [hok,q];rfl) hp
   rw [hcb] at CI
   clear hp hcb
   go_wp2_with fail
   refine (unhide CI _).mono ?_;rintro e w' ⟨rfl,hw⟩;have hw':=hw.symm;clear hw;subst hw'
   go_wp2_with fail
   (try simp only [Exit.inBlock,Exit.then])
   refine bodyPost_ret (ret_cache rfl rfl (unhide RB)) rfl ?_
   rw [unhide HL]
   exact unhide fin
end Go.Proofs.YtnlllcgcaddhmaaGreatDoor.ua
namespace Go.Proofs.YtnlllcgcaddhmaaGreatDoor.ua
open Go.ChangeShapes Go.WideShapes Go.ChangeAt Go.RowKit
open sl (Sl Own ints marks hide unhide)
open css (Outs)
open yb (Box4)
open cf (Box)
set_option linter.unusedVariables false
theorem tot_append (A B:List Kn):tot (A++B)=tot A+tot B:=by
 unfold tot
 rw [List.length_append,List.map_append,List.sum_append]
 omega
theorem tot_one (k:Kn):tot [k]=1+wt k:=by simp [tot]
theorem tot_part (KK:List Kn)(j:Nat)(hj:j<KK.length):tot ((KK.take j++KK.drop (j+1))++[KK.getD j kz])=tot KK:=by
 have e:KK=KK.take j++KK.getD j kz::KK.drop (j+1):=by
  conv=>lhs;rw [←List.take_append_drop j KK,List.drop_eq_getElem_cons hj]
  simp [hj]
 have q:tot KK=tot (KK.take j++([KK.getD j kz]++KK.drop (j+1))):=by rw [List.singleton_append,←e]
 rw [q,tot_append,tot_append,tot_append,tot_append]
 omega
theorem fnd_parts {room:Int}{KK:List Kn}{d:ByteArray}(hb:fndB room KK d=true):∃ j,j<KK.length∧fndK room KK d=KK.getD j kz∧fndL room KK d=(KK.take j++KK.drop (j+1))++[KK.getD j kz]:=by
 have hok:okC room KK=true:=by unfold fndB at hb;rw [Bool.and_eq_true] at hb;exact hb.1
 obtain⟨_,_,_,hdist⟩:=okC_parts hok
 have hnw:newTo KK d KK.length=false:=by unfold fndB at hb;rw [Bool.and_eq_true] at hb;simpa using hb.2
 obtain⟨j,hj,ej⟩:∃ j,j<KK.length∧(KK.getD j kz).dg=d:=by
  refine (has_dm KK d KK.length).1 ?_
  rw [newTo_dm,hnw]
  rfl
 have eK:=ent_at hdist j hj ej
 refine⟨j,hj,?_,?_⟩
 ·unfold fndK;rw [hb,←eK];rfl
 ·unfold fndL;rw [hb,←eK,erase_filter hdist j hj ej];rfl
theorem tot_fnd (room:Int)(KK:List Kn)(d:ByteArray):tot (fndL room KK d)≤tot KK:=by
 cases hb:fndB room KK d
 ·unfold fndL;rw [hb];exact Nat.le_refl _
 ·obtain⟨j,hj,_,e⟩:=fnd_parts hb
  rw [e,tot_part KK j hj]
  exact Nat.le_refl _
theorem vals_fnd (room:Int)(KK:List Kn)(d:ByteArray):(fndK room KK d).vals.length≤tot KK:=by
 cases hb:fndB room KK d
 ·unfold fndK;rw [hb];exact Nat.zero_le _
 ·obtain⟨j,hj,e,_⟩:=fnd_parts hb
  rw [e]
  exact tot_vals KK j
theorem tot_filter (p:Kn→Bool)(KK:List Kn):tot (KK.filter p)≤tot KK:=by
 induction KK with
 | nil=>exact Nat.le_refl _
 | cons x l ih =>
  rw [List.filter_cons]
  have e:tot (x::l)=tot [x]+tot l:=by rw [←List.singleton_append,tot_append]
  split
  ·have e2:tot (x::l.filter p)=tot [x]+tot (l.filter p):=by rw [←List.singleton_append,tot_append]
   omega
  ·omega
theorem tot_drop1 (L:List Kn):tot (L.drop 1)≤tot L:=by
 cases L with
 | nil=>exact Nat.le_refl _
 | cons x l =>
  have e:tot (x::l)=tot [x]+tot l:=by rw [←List.singleton_append,tot_append]
  show tot l≤_
  omega
theorem tot_put (room:Int)(KK:List Kn)(k:Kn):tot (putK room KK k)≤tot KK+1+wt k:=by
 unfold putK
 split
 ·unfold putL
  have h1:=tot_filter (oth k.dg) KK
  have h2:tot (rest KK k.dg++[k])≤tot KK+1+wt k:=by
   rw [tot_append,tot_one]
   unfold rest
   omega
  split
  ·exact Nat.le_trans (tot_drop1 _) h2
  ·exact h2
 ·omega
theorem mem_put {room:Int}{KK:List Kn}{k x:Kn}(h:x∈putK room KK k):x=k∨x∈KK:=by
 have h2:x∈rest KK k.dg++[k]→x=k∨x∈KK:=by
  intro q
  rw [List.mem_append,List.mem_singleton] at q
  rcases q with q | q
  ·exact .inr (List.mem_filter.1 q).1
  ·exact .inl q
 unfold putK at h
 split at h
 ·unfold putL at h
  split at h
  ·exact h2 (List.mem_of_mem_drop h)
  ·exact h2 h
 ·exact .inr h
theorem vals_mem {KK:List Kn}{x:Kn}(h:x∈KK):x.vals.length≤tot KK:=by
 obtain⟨i,hi,rfl⟩:=List.getElem_of_mem h
 have:=tot_vals KK i
 rwa [show KK.getD i kz=KK[i] by simp [hi]] at this
theorem eqCacheB (v u:Value)(n:Int)(KK:List Kn)(w:World)(h1:KK.length≤1048576)(h2:∀ i,(KK.getD i kz).vals.length≤1048576)(hv:Kns w v KK)(hu:Kns w u KK) :
  Calls Tryz.prog 20 #[.agg #[.int .i64 n,v],.agg #[.int .i64 n,u]] w fun e w'=>e=.returned (.bool true)∧w.grownBy w' none:=by
 have g0:w.grownBy ((w.alloc (.cells #[.int .i64 n,v] 30)).alloc (.cells #[.int .i64 n,u] 30)) none:=sl.grown_trans (World.grownBy_alloc _ _ _) (World.grownBy_alloc _ _ _)
 have C:=hide (eqKnownS v u KK _ h1 h2 (hv.kept g0) (hu.kept g0))
 have G:=hide g0
 clear hv hu h1 h2 g0
 go_enter Tryz.func20,Tryz.ntmps20
 go_wp2_with fail
 refine (unhide C).mono ?_;rintro e w1 ⟨rfl,g1⟩
 have R:=hide (sl.grown_trans (r:=none) (unhide G) g1)
 clear g1 G C
 go_wp2_with fail
 go_ret
 exact⟨rfl,unhide R⟩
end Go.Proofs.YtnlllcgcaddhmaaGreatDoor.ua
namespace Go.Proofs.YtnlllcgcaddhmaaGreatDoor.ua
set_option linter.unusedVariables false
theorem len_put (room:Int)(KK:List Kn)(k:Kn)(h:KK.length≤1048576):(putK room KK k).length≤1048576:=by
 unfold putK
 split
 ·rename_i hp
  have hok:okC room KK=true:=by unfold putOk at hp;rw [Bool.and_eq_true] at hp;exact hp.1
  obtain⟨h0,h1,h2,_⟩:=okC_parts hok
  have h3:=rest_le KK k.dg
  have h4:(rest KK k.dg++[k]).length≤1048576:=by rw [List.length_append,List.length_singleton];omega
  unfold putL
  split
  ·rw [List.length_drop];omega
  ·exact h4
 ·exact h
end Go.Proofs.YtnlllcgcaddhmaaGreatDoor.ua
