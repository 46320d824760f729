/- What the small helpers on lists of what is known, and on caches, do: a size, an equality, copies of caches; no condition but on sizes. -/
import Derived.Test.YtnlllcgcaddhmaaGreatDoorJUa
import Derived.Test.YtnlllcgcaddhmaaGreatDoorJXUl
import Derived.Conc.MuLone
import Derived.Maps.Own
import Derived.Maps.OwnOps
import Derived.Maps.OwnSet
import Derived.Maps.Views
import Derived.Deep.AppendLies
import Derived.Defers
import Derived.Deep.RegionLaw
import Derived.Test.YtnlllcgcaddhmaaGreatDoorJOn
namespace Go.Proofs.YtnlllcgcaddhmaaGreatDoor.ua
open Go.ChangeShapes Go.WideShapes Go.ChangeAt Go.RowKit
open sl (Sl Own ints marks hide unhide ret_int ret_bool grown_refl grown_trans grown_drewN below_of of_below)
open css (Outs outs_trans outs_none outs_by outs_refl own_mono own_sub own_outs own_kind)
open yb (Box4)
open cf (Box)
set_option linter.unusedVariables false
def wt (k:Kn):Nat:=k.dg.size+k.vals.length
def tot (KK:List Kn):Nat:=KK.length+(KK.map wt).sum
def used (KK:List Kn)(k:Nat):Nat:=KK.length+((KK.take k).map wt).sum
theorem used_step (KK:List Kn)(k:Nat)(h:k<KK.length):used KK (k+1)=used KK k+wt (KK.getD k kz):=by
 unfold used
 rw [take_snoc KK k h]
 simp [Nat.add_assoc]
theorem used_all (KK:List Kn)(k:Nat)(h:¬ k<KK.length):used KK k=tot KK:=by
 unfold used tot
 rw [List.take_of_length_le (by omega)]
theorem tot_len (KK:List Kn):KK.length≤tot KK:=Nat.le_add_right _ _
theorem sum_in (l:List Kn)(i:Nat):wt (l.getD i kz)≤(l.map wt).sum:=by
 induction l generalizing i with
 | nil=>exact Nat.le_refl _
 | cons x l ih =>
  cases i with
  | zero=>simp
  | succ i =>
   have:=ih i
   simp at *
   omega
theorem tot_in (KK:List Kn)(i:Nat):wt (KK.getD i kz)≤tot KK:=Nat.le_trans (sum_in KK i) (Nat.le_add_left _ _)
theorem tot_vals (KK:List Kn)(i:Nat):(KK.getD i kz).vals.length≤tot KK:=Nat.le_trans (Nat.le_add_left _ _) (tot_in KK i)
theorem tot_dg (KK:List Kn)(i:Nat):(KK.getD i kz).dg.size≤tot KK:=Nat.le_trans (Nat.le_add_right _ _) (tot_in KK i)
set_option maxHeartbeats 800000 in
theorem szKnown (a:Option Addr)(n cap:Nat)(d:ByteArray)(sat:Bool)(cost:Int)(left:Int)(w:World)(h0:0≤left)(h1:left≤1048576)(hd:d.size≤9223372036854775807)(hn:n≤9223372036854775807) :
  Calls Tryz.prog 93 #[.agg #[.string d,.bool sat,.slice a n cap,.int .i64 cost],.int .i64 left] w fun e w'=>e=.returned (.int .i64 (if left<(d.size:Int)+(n:Int) then -1 else left - ((d.size:Int)+(n:Int))))∧w.grownBy w' none:=by
 have G:=hide (World.grownBy_alloc w (.cells #[.string d,.bool sat,.slice a n cap,.int .i64 cost] 128) none)
 by_cases c1:left - (d.size:Int)<0
 ·rw [if_pos (by omega)]
  go_enter Tryz.func93,Tryz.ntmps93
  go_wp2
  go_ret
  exact⟨rfl,unhide G⟩
 have C:=css.szIntS a n cap (left - (d.size:Int)) (w.alloc (.cells #[.string d,.bool sat,.slice a n cap,.int .i64 cost] 128)) (by omega) (by omega) hn
 by_cases c2:left - (d.size:Int)<(n:Int)
 ·rw [if_pos c2] at C
  rw [if_pos (by omega)]
  have C':=hide C
  clear C
  go_enter Tryz.func93,Tryz.ntmps93
  go_wp2_with fail
  refine (unhide C').mono ?_;rintro e w' ⟨rfl,rfl⟩
  go_wp2_with fail
  go_ret
  exact⟨rfl,unhide G⟩
 ·rw [if_neg c2] at C
  rw [if_neg (by omega)]
  have C':=hide C
  have EE:Hid (left - (d.size:Int) - (n:Int)=left - ((d.size:Int)+(n:Int))):=by show _=_;omega
  have hq:¬ left - (d.size:Int) - (n:Int)<0:=by omega
  clear C
  go_enter Tryz.func93,Tryz.ntmps93
  go_wp2_with fail
  refine (unhide C').mono ?_;rintro e w' ⟨rfl,rfl⟩
  go_wp2_with fail
  go_ret
  exact⟨ret_int (unhide EE),unhide G⟩
set_option maxHeartbeats 800000 in
theorem szKnownS (v:Value)(KK:List Kn)(left:Int)(w:World)(h0:0≤left)(h1:left≤1048576)(hn:KK.length≤9223372036854775807)(hin:∀ i,(KK.getD i kz).vals.length≤9223372036854775807∧(KK.getD i kz).dg.size≤9223372036854775807)(hv:Kns w v KK) :
  Calls Tryz.prog 48 #[v,.int .i64 left] w fun e w'=>∃ r:Int,e=.returned (.int .i64 r)∧w.grownBy w' none∧(r = -1∨0≤r∧r+(tot KK:Int)=left):=by
 obtain⟨a,cap,rfl,ha⟩:=hv
 by_cases hl:left<(KK.length:Int)
 ·have h2:left - (KK.length:Int)<0:=by omega
  clear ha
  go_enter Tryz.func48,Tryz.ntmps48
  go_wp2
  go_ret
  exact⟨_,rfl,grown_refl _,.inl rfl⟩
 ·have h2:¬ left - (KK.length:Int)<0:=by omega
  have HA:=hide ha
  clear ha
  go_enter Tryz.func48,Tryz.ntmps48
  go_wp2
  go_loopw [1,5] (fun q i wr=>∃ k:Nat,k≤KK.length∧i=.int .i64 k∧∃ r:Int,q=.int .i64 r∧0≤r∧Hid (r+(used KK k:Int)=left)∧Hid (w.grownBy wr none)) (fun _ i _=>KK.length - (intOf i).toNat)
  case atStart=>exact⟨0,Nat.zero_le _,rfl,_,rfl,by omega,by show _=_;simp [used],grown_refl _⟩
  case round =>
   obtain⟨k,hk,rfl,r,rfl,hr,hu,hg⟩:=hrel
   by_cases hlt:k<KK.length
   ·rcases unhide HA with h | ⟨b,off,rfl,hb,hcb⟩
    ·rw [h] at hlt
     simp at hlt
    ·obtain⟨u,hu4⟩:=hcb k hlt
     obtain⟨c0,c1,c2,c3,hs⟩:=hu4.kept (unhide hg)
     have us:=used_step KK k hlt
     unfold wt at us
     have hl':=hin k
     generalize KK.getD k kz=x at *
     obtain⟨dg,sat,vals,cost⟩:=x
     dsimp only at *
     obtain⟨a',cap',rfl,_⟩:=hs
     have hi':(k:Int)<(KK.length:Int):=by omega
     have hr1:r≤1048576:=by have:=unhide hu;omega
     have C:=szKnown a' vals.length cap' dg sat cost r wr hr hr1 hl'.2 hl'.1
     by_cases hq:r<(dg.size:Int)+(vals.length:Int)
     ·rw [if_pos hq] at C
      have C':=hide C
      clear C hq hcb HA us hu hu4 hl'
      go_wp2_with fail
      refine (unhide C').mono ?_;rintro e w' ⟨rfl,g'⟩
      have GG:=hide (grown_trans (r:=none) (unhide hg) g')
      clear g' hg
      go_wp2_with fail
      go_ret
      exact⟨_,rfl,unhide GG,.inl rfl⟩
     ·rw [if_neg hq] at C
      have C':=hide C
      have hu':Hid (r - ((dg.size:Int)+(vals.length:Int))+(used KK (k+1):Int)=left):=by show _=_;have:=unhide hu;omega
      have hq':¬ r - ((dg.size:Int)+(vals.length:Int))<0:=by omega
      have hq2:0≤r - ((dg.size:Int)+(vals.length:Int)):=by omega
      generalize r - ((dg.size:Int)+(vals.length:Int))=r2 at *
      clear C hq hcb HA us hu hu4 hl'
      go_wp2_with fail
      refine (unhide C').mono ?_;rintro e w' ⟨rfl,g'⟩
      have GG:=hide (grown_trans (r:=none) (unhide hg) g')
      clear g' hg
      go_wp2_with fail
      go_roundw
      case rel=>exact⟨k+1,by omega,by go_num,_,rfl,hq2,hu',GG⟩
      case measure=>simp [intOf];omega
   ·have hi':¬ (k:Int)<(KK.length:Int):=by omega
    have hu':Hid (r+(tot KK:Int)=left):=by show _=_;rw [←used_all KK k hlt];exact unhide hu
    clear HA hu
    go_wp2
    go_ret
    exact⟨_,rfl,unhide hg,.inr ⟨hr,unhide hu'⟩⟩
theorem szCache (v:Value)(room:Int)(KK:List Kn)(left:Int)(w:World)(h0:0≤left)(h1:left≤1048576)(hn:KK.length≤9223372036854775807)(hin:∀ i,(KK.getD i kz).vals.length≤9223372036854775807∧(KK.getD i kz).dg.size≤9223372036854775807)(hv:Kns w v KK) :
  Calls Tryz.prog 16 #[.agg #[.int .i64 room,v],.int .i64 left] w fun e w'=>∃ r:Int,e=.returned (.int .i64 r)∧w.grownBy w' none∧(r = -1∨0≤r∧r+(tot KK:Int)=left):=by
 have ga:=World.grownBy_alloc w (.cells #[.int .i64 room,v] 47) none
 have C:=hide (szKnownS v KK left _ h0 h1 hn hin (hv.kept ga))
 have G:=hide ga
 clear hv ga
 go_enter Tryz.func16,Tryz.ntmps16
 go_wp2_with fail
 refine (unhide C).mono ?_;rintro e w' ⟨r,rfl,g',hr⟩
 have GG:=hide (grown_trans (r:=none) (unhide G) g')
 clear g' G C
 rcases hr with rfl | ⟨hr0,hr1⟩
 ·go_wp2_with fail
  go_ret
  exact⟨_,rfl,unhide GG,.inl rfl⟩
 ·have hq:¬ r<0:=by omega
  go_wp2_with fail
  go_ret
  exact⟨_,rfl,unhide GG,.inr ⟨hr0,hr1⟩⟩
theorem sizeC:(Tryz.prog.info? 30).map (·.size)=some 2:=by kernel_rfl
theorem ret_cache {fn:Func}{p:Tmp}{tmps:Array Value}{w:World}{c:Nat}{x y:Value}(h:fn.results=#[.cell p 30])(hp:tmps.getD p undef=.pointer (some ⟨c,0,none⟩))(hb:Box 30 w c x y) :
  (results fn tmps).run Tryz.prog w=.ok (.agg #[x,y]) w :=
 results_cell_row h tmps w c 30 #[x,y] (0,0) _ hp hb Tryz.underlying30 rfl sizeC
theorem ownK_set {lo hi:Nat}{w:World}{v:Value}{KK:List Kn}{c i:Nat}{u:Value}(h:OwnK lo hi w v KK)(hc:c<lo∨hi≤c):OwnK lo hi (w.setCell ⟨c,i,none⟩ u) v KK :=
 h.outs (css.outs_by (lo:=c) (hi:=c+1) (sl.grown_setCell w c i u) (fun k e=>by cases e;omega)) (by omega)
set_option maxHeartbeats 400000 in
theorem toCache (v:Value)(n:Int)(KK:List Kn)(w:World)(hn:tot KK≤1048576)(hv:Kns w v KK) :
  Calls Tryz.prog 18 #[.agg #[.int .i64 n,v]] w fun e w'=>∃ u,e=.returned (.agg #[.int .i64 n,u])∧OwnK w.heap.size w'.heap.size w' u KK∧w.grownBy w' none:=by
 have h1:=Nat.le_trans (tot_len KK) hn
 have h2:=fun i=>Nat.le_trans (tot_vals KK i) hn
 have C:=hide (fun w1 (g:w.grownBy w1 none)=>toKnownS v KK w1 h1 h2 (hv.kept g))
 clear hv h1 h2
 go_enter Tryz.func18,Tryz.ntmps18
 go_wp2_with fail
 have g0:w.grownBy (((w.alloc (.cells #[.int .i64 n,v] 47)).alloc (.cells #[.int .i64 0,.slice none 0 0] 30)).alloc (.cells #[.int .i64 n,.slice none 0 0] 30)) none :=
  grown_trans (grown_trans (World.grownBy_alloc _ _ _) (World.grownBy_alloc _ _ _)) (World.grownBy_alloc _ _ _)
 have b2:=(Box.new 30 (w.alloc (.cells #[.int .i64 n,v] 47)) (.int .i64 0) (.slice none 0 0)).kept (World.grownBy_alloc _ (.cells #[.int .i64 n,.slice none 0 0] 30) none)
 have b3:=Box.new 30 ((w.alloc (.cells #[.int .i64 n,v] 47)).alloc (.cells #[.int .i64 0,.slice none 0 0] 30)) (.int .i64 n) (.slice none 0 0)
 refine (unhide C _ g0).mono ?_;rintro e w1 ⟨u,rfl,o1,g1⟩
 obtain⟨ua,uc,rfl⟩:=o1.len
 have b2':=b2.kept g1
 have b3':=b3.kept g1
 have R:=hide (And.intro o1 (grown_trans (r:=none) g0 g1))
 have B2:=hide b2'
 have x0:=b2'.c0
 have x1:=b2'.c1
 have x2:=b2'.f 0
 have x3:=b2'.f 1
 have y0:=b3'.c0
 have y1:=b3'.c1
 have y2:=b3'.f 0
 have y3:=b3'.f 1
 clear b2 b3 b2' b3' g0 g1 o1 C
 simp only [World.size_alloc] at x0 x1 x2 x3 y0 y1 y2 y3
 go_wp2_with fail
 obtain⟨o1,g1⟩:=unhide R
 have b:=((unhide B2).setO (d:=w.heap.size+1+1) (i:=1) (u:=.slice ua KK.length uc) (by simp)).set0 (.int .i64 n) |>.set1 (.slice ua KK.length uc)
 simp only [World.size_alloc] at b o1
 (try simp only [Exit.inBlock,Exit.then])
 refine bodyPost_ret (ret_cache rfl rfl b) rfl ⟨_,rfl,?_,?_⟩
 ·rw [cf.size_set,cf.size_set,cf.size_set]
  exact (ownK_set (ownK_set (ownK_set o1 (by omega)) (by omega)) (by omega)).sub (by omega) (Nat.le_refl _)
 ·exact cf.grown_set (cf.grown_set (cf.grown_set g1 (by omega)) (by omega)) (by omega)
theorem eqKnown (u v:Value)(k:Kn)(w:World)(hL:k.vals.length≤1048576)(hu:Sl w u k.vals)(hv:Sl w v k.vals) :
  Calls Tryz.prog 21 #[.agg #[.string k.dg,.bool k.sat,u,.int .i64 k.cost],.agg #[.string k.dg,.bool k.sat,v,.int .i64 k.cost]] w fun e w'=>e=.returned (.bool true)∧w.grownBy w' none:=by
 have g0:w.grownBy ((w.alloc (.cells #[.string k.dg,.bool k.sat,u,.int .i64 k.cost] 36)).alloc (.cells #[.string k.dg,.bool k.sat,v,.int .i64 k.cost] 36)) none:=grown_trans (World.grownBy_alloc _ _ _) (World.grownBy_alloc _ _ _)
 have C:=hide (sl.eqIntS u v k.vals _ hL (hu.kept g0 (.inl rfl)) (hv.kept g0 (.inl rfl)))
 have G:=hide g0
 clear hu hv g0
 go_enter Tryz.func21,Tryz.ntmps21
 go_wp2_with fail
 refine (unhide C).mono ?_;rintro e w1 ⟨rfl,g1⟩
 have R:=hide (grown_trans (r:=none) (unhide G) g1)
 have b0:=((Box4.new 36 w (.string k.dg) (.bool k.sat) u (.int .i64 k.cost)).kept (World.grownBy_alloc _ (.cells #[.string k.dg,.bool k.sat,v,.int .i64 k.cost] 36) none)).kept g1
 have b1:=(Box4.new 36 (w.alloc (.cells #[.string k.dg,.bool k.sat,u,.int .i64 k.cost] 36)) (.string k.dg) (.bool k.sat) v (.int .i64 k.cost)).kept g1
 have x3:=b0.c3
 have y3:=b1.c3
 simp only [World.size_alloc] at y3
 clear g1 G C b0 b1
 go_wp2_with fail
 go_ret
 exact⟨rfl,unhide R⟩
set_option maxHeartbeats 1600000 in
theorem eqKnownS (v u:Value)(KK:List Kn)(w:World)(hn:KK.length≤1048576)(hin:∀ i,(KK.getD i kz).vals.length≤1048576)(hv:Kns w v KK)(hu:Kns w u KK) :
  Calls Tryz.prog 52 #[v,u] w fun e w'=>e=.returned (.bool true)∧w.grownBy w' none:=by
 obtain⟨a,cap,rfl,ha⟩:=hv
 obtain⟨c,cap',rfl,hc⟩:=hu
 have HA:=hide ha
 have HC:=hide hc
 clear ha hc
 go_enter Tryz.func52,Tryz.ntmps52
 go_wp2
 go_loopw [5] (fun i wr=>∃ k:Nat,k≤KK.length∧i=.int .i64 k∧w.grownBy wr none) (fun i _=>KK.length - (intOf i).toNat)
 case atStart=>exact⟨0,Nat.zero_le _,rfl,grown_refl _⟩
 case round =>
  obtain⟨k,hk,rfl,hg⟩:=hrel
  by_cases hlt:k<KK.length
  ·rcases unhide HA with h | ⟨b,off,rfl,hb,hcb⟩
   ·rw [h] at hlt
    simp at hlt
   ·rcases unhide HC with h | ⟨d,off',rfl,hd,hcd⟩
    ·rw [h] at hlt
     simp at hlt
    ·obtain⟨x,hx⟩:=hcb k hlt
     obtain⟨y,hy⟩:=hcd k hlt
     have hL:=hin k
     have X:=hide (hx.kept hg)
     have Y:=hide (hy.kept hg)
     generalize KK.getD k kz=z at *
     obtain⟨dg,sat,vals,cost⟩:=z
     dsimp only at hL
     have C:=hide (fun w1 (g:wr.grownBy w1 none)=>eqKnown x y ⟨dg,sat,vals,cost⟩ w1 hL (((unhide X).kept g).2.2.2.2) (((unhide Y).kept g).2.2.2.2))
     have hi:(k:Int)<(KK.length:Int):=by omega
     have G:=hide hg
     obtain⟨x0,x1,x2,x3,_⟩:=unhide X
     obtain⟨y0,y1,y2,y3,_⟩:=unhide Y
     obtain⟨xa,xc,rfl,_⟩:=hx.2.2.2.2
     obtain⟨ya,yc,rfl,_⟩:=hy.2.2.2.2
     dsimp only at x0 x1 x2 x3 y0 y1 y2 y3 C
     have CK:Hid (∀ w',wr.grownBy w' none→w'.cell? ⟨b,off+k*4,none⟩=some (.string dg)∧w'.cell? ⟨b,off+k*4+1,none⟩=some (.bool sat)∧w'.cell? ⟨b,off+k*4+2,none⟩=some (.slice xa vals.length xc)∧w'.cell? ⟨b,off+k*4+3,none⟩=some (.int .i64 cost)∧w'.cell? ⟨d,off'+k*4,none⟩=some (.string dg)∧w'.cell? ⟨d,off'+k*4+1,none⟩=some (.bool sat)∧w'.cell? ⟨d,off'+k*4+2,none⟩=some (.slice ya vals.length yc)∧w'.cell? ⟨d,off'+k*4+3,none⟩=some (.int .i64 cost)):=fun w' g=>⟨g.cell x0 (fun e=>by cases e),g.cell x1 (fun e=>by cases e),g.cell x2 (fun e=>by cases e),g.cell x3 (fun e=>by cases e),g.cell y0 (fun e=>by cases e),g.cell y1 (fun e=>by cases e),g.cell y2 (fun e=>by cases e),g.cell y3 (fun e=>by cases e)⟩
     clear hg hcb hcd HA HC hx hy X Y
     go_wp2_with fail
     have GX:=hide (cf.grown_drew wr none)
     go_region_held3 (fun w'=>w'.cell? ⟨b,off+k*4,none⟩=some (.string dg)∧w'.cell? ⟨b,off+k*4+1,none⟩=some (.bool sat)∧w'.cell? ⟨b,off+k*4+2,none⟩=some (.slice xa vals.length xc)∧w'.cell? ⟨b,off+k*4+3,none⟩=some (.int .i64 cost)∧w'.cell? ⟨d,off'+k*4,none⟩=some (.string dg)∧w'.cell? ⟨d,off'+k*4+1,none⟩=some (.bool sat)∧w'.cell? ⟨d,off'+k*4+2,none⟩=some (.slice ya vals.length yc)∧w'.cell? ⟨d,off'+k*4+3,none⟩=some (.int .i64 cost)) (go_keep) (first
      | (go_at_call 21;refine (unhide C _ (unhide GX)).mono ?_;rintro e w9 ⟨rfl,g9⟩;replace GX:=hide (grown_trans (r:=none) (unhide GX) g9);obtain⟨k1,k2,k3,k4,k5,k6,k7,k8⟩:=unhide CK _ (unhide GX);clear g9))
     all_goals
      go_wp2_with fail
      go_roundw
      case rel=>exact⟨k+1,by omega,by go_num,grown_trans (unhide G) (unhide GX)⟩
      case measure=>simp [intOf];omega
  ·have hi:¬ (k:Int)<(KK.length:Int):=by omega
   have G:=hide hg
   clear hg HA HC
   go_wp2
   go_ret
   exact⟨rfl,unhide G⟩
theorem eqCache (v u:Value)(n:Int)(KK:List Kn)(w:World)(hn:tot KK≤1048576)(hv:Kns w v KK)(hu:Kns w u KK) :
  Calls Tryz.prog 20 #[.agg #[.int .i64 n,v],.agg #[.int .i64 n,u]] w fun e w'=>e=.returned (.bool true)∧w.grownBy w' none:=by
 have h1:=Nat.le_trans (tot_len KK) hn
 have h2:=fun i=>Nat.le_trans (tot_vals KK i) hn
 have g0:w.grownBy ((w.alloc (.cells #[.int .i64 n,v] 30)).alloc (.cells #[.int .i64 n,u] 30)) none:=grown_trans (World.grownBy_alloc _ _ _) (World.grownBy_alloc _ _ _)
 have C:=hide (eqKnownS v u KK _ h1 h2 (hv.kept g0) (hu.kept g0))
 have G:=hide g0
 clear hv hu h1 h2 g0
 go_enter Tryz.func20,Tryz.ntmps20
 go_wp2_with fail
 refine (unhide C).mono ?_;rintro e w1 ⟨rfl,g1⟩
 have R:=hide (grown_trans (r:=none) (unhide G) g1)
 clear g1 G C
 go_wp2_with fail
 go_ret
 exact⟨rfl,unhide R⟩
end Go.Proofs.YtnlllcgcaddhmaaGreatDoor.ua
namespace Go.Proofs.YtnlllcgcaddhmaaGreatDoor.ua
open Go.ChangeShapes Go.WideShapes Go.ChangeAt Go.RowKit Go.Maps
open sl (Sl Own ints marks hide unhide ret_int ret_bool grown_refl grown_trans grown_drewN below_of of_below)
open css (Outs outs_trans outs_none outs_by outs_refl own_mono own_sub own_outs own_kind)
open yb (Box4)
open cf (Box)
set_option linter.unusedVariables false
def key (d:ByteArray):Lit:=.string d.data.toList
theorem key_inj {a b:ByteArray}(h:key a=key b):a=b:=by
 unfold key at h
 injection h with h
 apply ByteArray.ext
 exact Array.toList_inj.1 h
theorem key_ok (d:ByteArray):WideAt.IsKeyLit (key d):=trivial
def num (i:Nat):DataW Unit:=.lit (.int .i64 (i:Int))
def dmAt (E:List Kn):Nat→DataW Unit
 | 0=>.map []
 | n+1=>(dmAt E n).put (key (E.getD n kz).dg) (num n)
theorem dm_tidy (E:List Kn):∀ n,Tidy (dmAt E n)
 | 0=>tidy_empty
 | n+1=>(dm_tidy E n).put (key_ok _) _
def Dist (E:List Kn)(n:Nat):Prop:=∀ i j,i<j→j<n→(E.getD i kz).dg≠(E.getD j kz).dg
theorem has_dm (E:List Kn)(d:ByteArray):∀ n,Maps.has (dmAt E n) (key d)=true↔∃ i,i<n∧(E.getD i kz).dg=d
 | 0=>by
  constructor
  ·intro h
   cases h
  ·rintro⟨i,hi,_⟩
   omega
 | n+1=>by
  by_cases e:(E.getD n kz).dg=d
  ·constructor
   ·exact fun _=>⟨n,Nat.lt_succ_self _,e⟩
   ·intro _
    show Maps.has ((dmAt E n).put (key (E.getD n kz).dg) (num n)) (key d)=true
    rw [e]
    exact has_put_same (dm_tidy E n).isMap (key_ok d) _
  ·show Maps.has ((dmAt E n).put (key (E.getD n kz).dg) (num n)) (key d)=true↔_
   rw [has_put_other (fun q=>e (key_inj q).symm),has_dm E d n]
   constructor
   ·rintro⟨i,hi,q⟩
    exact⟨i,Nat.lt_succ_of_lt hi,q⟩
   ·rintro⟨i,hi,q⟩
    refine⟨i,?_,q⟩
    rcases Nat.lt_succ_iff_lt_or_eq.1 hi with h | rfl
    ·exact h
    ·exact absurd q e
theorem at_dm (E:List Kn)(z:DataW Unit):∀ n,Dist E n→∀ i,i<n→(dmAt E n).atKey (key (E.getD i kz).dg) z=num i
 | 0,_,i,hi=>by omega
 | n+1,h,i,hi=>by
  show ((dmAt E n).put (key (E.getD n kz).dg) (num n)).atKey (key (E.getD i kz).dg) z=num i
  by_cases e:i=n
  ·subst e
   exact atKey_put_same (dm_tidy E i).isMap (key_ok _) _ _
  ·rw [atKey_put_other (fun q=>h i n (by omega) (Nat.lt_succ_self _) (key_inj q))]
   exact at_dm E z n (fun i j hij hj=>h i j hij (by omega)) i (by omega)
theorem size_dm (E:List Kn):∀ n,Dist E n→Maps.size (dmAt E n)=n
 | 0,_=>rfl
 | n+1,h=>by
  show Maps.size ((dmAt E n).put (key (E.getD n kz).dg) (num n))=n+1
  rw [size_put (dm_tidy E n),if_neg,size_dm E n (fun i j hij hj=>h i j hij (by omega))]
  intro q
  obtain⟨i,hi,e⟩:=(has_dm E _ n).1 q
  exact h i n hi (Nat.lt_succ_self _) e
def OwnH (w0 wr:World)(v:Value)(E:List Kn):Prop :=
 ∃ D:List (Value × Kn),D.map (·.2)=E∧wr.ownsRow w0.heap.size 36 4 v D.length (cells4 D)∧∀ p∈D,Vl w0 p.1 p.2.vals
theorem OwnH.len {w0 wr:World}{v:Value}{E:List Kn}(h:OwnH w0 wr v E):∃ a cap,v=.slice a E.length cap:=by
 obtain⟨D,rfl,⟨_,h2⟩,_⟩:=h
 rcases h2 with ⟨rfl,h0⟩ | ⟨g,cap,cur,rfl,_⟩
 ·exact⟨none,0,by rw [List.length_map,h0]⟩
 ·exact⟨_,cap,by rw [List.length_map]⟩
theorem OwnH.kept {w0 wr w1:World}{v:Value}{E:List Kn}{r:Option Nat}(h:OwnH w0 wr v E)(g:wr.grownBy w1 r)(hr:∀ k,r=some k→v.ownBlock≠some k):OwnH w0 w1 v E:=by
 obtain⟨D,e,ho,hs⟩:=h
 refine⟨D,e,ho.kept g ?_,hs⟩
 cases q:v.ownBlock with
 | none=>exact .inl rfl
 | some k=>exact .inr (fun e=>hr k e.symm q)
theorem OwnH.at {w0 wr:World}{v:Value}{E:List Kn}(h:OwnH w0 wr v E){i:Nat}(hi:i<E.length):∃ g cap u,v=.slice (some ⟨g,0,none⟩) E.length cap∧wr.cell? ⟨g,i*4,none⟩=some (.string (E.getD i kz).dg)∧wr.cell? ⟨g,i*4+1,none⟩=some (.bool (E.getD i kz).sat)∧wr.cell? ⟨g,i*4+2,none⟩=some u∧wr.cell? ⟨g,i*4+3,none⟩=some (.int .i64 (E.getD i kz).cost)∧Vl w0 u (E.getD i kz).vals:=by
 obtain⟨D,rfl,ho,hs⟩:=h
 rw [List.length_map] at hi
 have ho':=ho
 obtain⟨_,h2⟩:=ho
 rcases h2 with ⟨rfl,h0⟩ | ⟨g,cap,cur,rfl,_⟩
 ·omega
 ·have q:=own_at ho' rfl hi
  rw [map_at hi]
  exact⟨g,cap,D[i].1,by rw [List.length_map],q.1,q.2.1,q.2.2.1,q.2.2.2,hs _ (List.getElem_mem hi)⟩
structure Shf (w0 wr:World) (s bm:Nat) (lk room:Int) (v:Value) (E:List Kn) (D:DataW Unit):Prop where
 g:w0.grownBy wr none
 blk:wr.heap[s]?=some (.cells #[.int .i32 lk,.int .u32 0,.int .i64 room,v,.map (some bm)] 126 (0,0))
 own:OwnH w0 wr v E
 map:wr.ownsMap Tryz.prog 9 (plainElem Tryz.prog 3) bm E.length D
 hs:w0.heap.size≤s
 hb:w0.heap.size≤bm
theorem Shf.lt {w0 wr:World}{s bm:Nat}{lk room:Int}{v:Value}{E:List Kn}{D:DataW Unit}(h:Shf w0 wr s bm lk room v E D):s<wr.heap.size:=(Array.getElem?_eq_some_iff.1 h.blk).1
theorem Shf.cells {w0 wr:World}{s bm:Nat}{lk room:Int}{v:Value}{E:List Kn}{D:DataW Unit}(h:Shf w0 wr s bm lk room v E D) :
  wr.cell? ⟨s,0,none⟩=some (.int .i32 lk)∧wr.cell? ⟨s,2,none⟩=some (.int .i64 room)∧wr.cell? ⟨s,3,none⟩=some v∧wr.cell? ⟨s,4,none⟩=some (.map (some bm))∧∀ i,wr.frozen? ⟨s,i,none⟩=false:=by
 have hb:=h.blk
 refine⟨?_,?_,?_,?_,fun i=>?_⟩
 ·simp [World.cell?,hb]
 ·simp [World.cell?,hb]
 ·simp [World.cell?,hb]
 ·simp [World.cell?,hb]
 ·simp [World.frozen?,hb]
theorem Shf.ne {w0 wr:World}{s bm:Nat}{lk room:Int}{v:Value}{E:List Kn}{D:DataW Unit}(h:Shf w0 wr s bm lk room v E D):bm≠s:=by
 obtain⟨es,cl,hm,_⟩:=h.map
 rintro rfl
 rw [h.blk] at hm
 cases hm
theorem shelf_ty:(36:Nat)≠126:=by decide
theorem Shf.row_ne {w0 wr:World}{s bm:Nat}{lk room:Int}{v:Value}{E:List Kn}{D:DataW Unit}(h:Shf w0 wr s bm lk room v E D):v.ownBlock≠some s∧v.ownBlock≠some bm:=by
 obtain⟨D',_,ho,_⟩:=h.own
 constructor
 ·intro e
  obtain⟨c,fz,hc⟩:=own_kind ho s e
  rw [h.blk] at hc
  simp only [Option.some.injEq,Obj.cells.injEq] at hc
  exact shelf_ty hc.2.1.symm
 ·intro e
  obtain⟨c,fz,hc⟩:=own_kind ho bm e
  obtain⟨es,cl,hm,_⟩:=h.map
  rw [hm] at hc
  cases hc
theorem Shf.kept {w0 wr w1:World}{s bm:Nat}{lk room:Int}{v:Value}{E:List Kn}{D:DataW Unit}(h:Shf w0 wr s bm lk room v E D)(g:wr.grownBy w1 none):Shf w0 w1 s bm lk room v E D :=
 ⟨grown_trans (r:=none) h.g g,(g.block s h.lt (fun e=>by cases e)).trans h.blk,h.own.kept g (fun k e=>by cases e),h.map.kept g (by simp),h.hs,h.hb⟩
theorem grown_in {w0 wr w1:World}{r:Nat}(h:w0.grownBy wr none)(k:wr.grownBy w1 (some r))(hr:w0.heap.size≤r):w0.grownBy w1 none :=
 ⟨k.os.trans h.os,k.tape.trans h.tape,k.output.trans h.output,Nat.le_trans h.size k.size,fun i hi _=>(k.block i (Nat.lt_of_lt_of_le hi h.size) (fun e=>by injection e with e;omega)).trans (h.block i hi (fun e=>by cases e))⟩
theorem Shf.set {w0 wr:World}{s bm:Nat}{lk room lk' room':Int}{v v' u:Value}{E:List Kn}{D:DataW Unit}{i:Nat}(h:Shf w0 wr s bm lk room v E D)
  (hb:(wr.setCell ⟨s,i,none⟩ u).heap[s]?=some (.cells #[.int .i32 lk',.int .u32 0,.int .i64 room',v',.map (some bm)] 126 (0,0))) (ho:v'=v):Shf w0 (wr.setCell ⟨s,i,none⟩ u) s bm lk' room' v' E D:=by
 subst ho
 have g:=sl.grown_setCell wr s i u
 exact⟨grown_in h.g g h.hs,hb,h.own.kept g (fun k e=>by cases e;exact h.row_ne.1),h.map.kept g (by intro e;cases e;exact h.ne rfl),h.hs,h.hb⟩
theorem Shf.lock {w0 wr:World}{s bm:Nat}{lk room:Int}{v:Value}{E:List Kn}{D:DataW Unit}(h:Shf w0 wr s bm lk room v E D)(lk':Int):Shf w0 (wr.setCell ⟨s,0,none⟩ (.int .i32 lk')) s bm lk' room v E D:=by
 refine h.set ?_ rfl
 have hb:=h.blk
 simp [World.setCell,Array.getElem?_modify,hb]
theorem Shf.room {w0 wr:World}{s bm:Nat}{lk room:Int}{v:Value}{E:List Kn}{D:DataW Unit}(h:Shf w0 wr s bm lk room v E D)(r:Int):Shf w0 (wr.setCell ⟨s,2,none⟩ (.int .i64 r)) s bm lk r v E D:=by
 refine h.set ?_ rfl
 have hb:=h.blk
 simp [World.setCell,Array.getElem?_modify,hb]
theorem Shf.turn {w0 wr w1:World}{s bm n:Nat}{lk room:Int}{v:Value}{E:List Kn}{D D':DataW Unit}(h:Shf w0 wr s bm lk room v E D)(g:wr.grownBy w1 (some bm))(hm:w1.ownsMap Tryz.prog 9 (plainElem Tryz.prog 3) bm n D')(hn:n≤E.length):Shf w0 w1 s bm lk room v E D' :=
 ⟨grown_in h.g g h.hb,(g.block s h.lt (fun e=>by injection e with e;exact h.ne e.symm)).trans h.blk,h.own.kept g (fun k e=>by cases e;exact h.row_ne.2),hm.mono hn,h.hs,h.hb⟩
theorem law:Keyed Tryz.prog 9:=string_keyed Tryz.underlying9
theorem zeroE (w:World):(zeroValue 3).run Tryz.prog w=.ok (.int .i64 0) w:=by kernel_rfl
theorem keyOf_dg {d:ByteArray}(h:d.size≤maxLen):keyOf Tryz.prog 9 (.string d)=some (key d):=WideMaps.keyOf_string_mk Tryz.underlying9 h
end Go.Proofs.YtnlllcgcaddhmaaGreatDoor.ua
namespace Go.Proofs.YtnlllcgcaddhmaaGreatDoor.ua
open Go.ChangeShapes Go.WideShapes Go.ChangeAt Go.RowKit Go.Maps Go.MuLone
open sl (Sl Own ints marks hide unhide ret_int ret_bool grown_refl grown_trans grown_drewN below_of of_below)
open css (Outs outs_trans outs_none outs_by outs_refl own_mono own_sub own_outs own_kind)
open yb (Box4)
open cf (Box)
set_option linter.unusedVariables false
theorem stepH {ops:Array Oper}{o:Oper}{a:Act}{K:Act→World→Prop}{Q:Exit→Act→World→Prop}{X:Prop}{w0 wr:World}{v u:Value}{E:List Kn}{k:Kn}
  (h:OwnH w0 wr v E) (hu:Vl w0 u k.vals) (h1:Value.oneCell' u=true) (hlo:w0.heap.size≤wr.heap.size) (hM:E.length≤1048576) (hgd:o.guard=none) (s x:Operand)
  (ho:o.op=.call { callee:=.builtin .append,args:=#[s,x],argTypes:=#[28,28] }) (hs:a.eval s=v) (hx:a.eval x=.slice (some ⟨wr.heap.size,0,none⟩) 1 1)
  (hK:∀ g cap w1,OwnH w0 w1 (.slice (some ⟨g,0,none⟩) (E.length+1) cap) (E++[k])→(wr.alloc (.cells #[.string k.dg,.bool k.sat,u,.int .i64 k.cost] 36)).grownBy w1 v.ownBlock→(v.ownBlock=some g∨g=wr.heap.size+1)→K (a.put o.dst (.slice (some ⟨g,0,none⟩) (E.length+1) cap)) w1) :
  if Region.wanted o (yielded ops a.tmps)=true then Oper.wp Tryz.prog o a (wr.alloc (.cells #[.string k.dg,.bool k.sat,u,.int .i64 k.cost] 36)) K Q else X:=by
 obtain⟨i0,hi,hz0,hz1,hz2⟩:=info_parts infoK
 obtain⟨D,rfl,hw,hin⟩:=h
 rw [List.length_map] at *
 refine step_append_lies _ hgd s x 28 ho w0.heap.size 36 i0 (.agg #[.string ⟨#[]⟩,.bool false,.slice none 0 0,.int .i64 0]) 4 56 Tryz.underlying28 hi hz0 hz1 hz2 rfl (by decide) v D.length (cells4 D) hs (hw.alloc _) ⟨wr.heap.size,0,none⟩ 1 1 (four u k) hx rfl ?_ ?_ (by decide) ?_ ?_ ?_ (wr.heap.size+1) (World.size_alloc ..) ?_
 ·intro j y hj
  have hb:=Go.heap_alloc_new wr (.cells #[.string k.dg,.bool k.sat,u,.int .i64 k.cost] 36)
  rw [Addr.add_lit,Nat.zero_add]
  unfold World.cell?
  rw [hb]
  rw [←hj]
  unfold four
  simp
 ·intro y hy
  simp only [four,List.mem_cons,List.not_mem_nil,or_false] at hy
  rcases hy with rfl | rfl | rfl | rfl
  ·rfl
  ·rfl
  ·exact h1
  ·rfl
 ·unfold maxLen;omega
 ·omega
 ·simp;omega
 ·intro g cap w1 h1 hg hloc _
  refine hK g cap w1 ⟨D++[(u,k)],by simp,?_,fun p hp=>?_⟩ hg hloc
  ·rw [List.length_append,cells4_append]
   exact h1
  ·rw [List.mem_append,List.mem_singleton] at hp
   rcases hp with hp | rfl
   ·exact hin p hp
   ·exact hu
theorem end0 {P:Program}{fn:Func}{R:Ending→World→Prop}{a:Act}{w:World}(h:fn.results=#[])(hd:a.defers=[])(hr:R (.returned (.tuple #[])) w):bodyPost P fn R .normal a w :=
 ⟨hd,_,by simp [results,h],hr⟩
theorem wf_nat {n:Nat}(h:n≤1048577):(Lit.int .i64 (n:Int)).wf=true:=by
 exact WalkArith.wf_i64 (by omega)
structure Shf2 (w0 wr:World) (s bm:Nat) (room:Int) (v:Value) (E:List Kn) (n:Nat) (D:DataW Unit):Prop where
 g:w0.grownBy wr none
 blk:wr.heap[s]?=some (.cells #[.int .i32 1,.int .u32 0,.int .i64 room,v,.map (some bm)] 126 (0,0))
 own:OwnH w0 wr v E
 map:wr.ownsMap Tryz.prog 9 (plainElem Tryz.prog 3) bm n D
 hs:w0.heap.size≤s
 hb:w0.heap.size≤bm
theorem Shf2.lt {w0 wr:World}{s bm n:Nat}{room:Int}{v:Value}{E:List Kn}{D:DataW Unit}(h:Shf2 w0 wr s bm room v E n D):s<wr.heap.size:=(Array.getElem?_eq_some_iff.1 h.blk).1
theorem Shf2.grow {w0 wr w1:World}{s bm n:Nat}{room:Int}{v v':Value}{E E':List Kn}{D:DataW Unit}{o:Obj}(h:Shf2 w0 wr s bm room v E n D)(g:(wr.drew.alloc o).grownBy w1 v.ownBlock)(ho:OwnH w0 w1 v' E')(hl:n≤E'.length) :
  w1.cell? ⟨s,3,none⟩=some v∧w1.frozen? ⟨s,3,none⟩=false∧Shf w0 (w1.setCell ⟨s,3,none⟩ v') s bm 1 room v' E' D:=by
 have gd:wr.grownBy (wr.drew.alloc o) none:=grown_trans (cf.grown_drew wr none) (World.grownBy_alloc _ _ none)
 obtain⟨D',_,hw,_⟩:=h.own
 have r1:v.ownBlock≠some s:=by
  intro e
  obtain⟨c,fz,hc⟩:=own_kind hw s e
  rw [h.blk] at hc
  simp only [Option.some.injEq,Obj.cells.injEq] at hc
  exact shelf_ty hc.2.1.symm
 have r2:v.ownBlock≠some bm:=by
  intro e
  obtain⟨c,fz,hc⟩:=own_kind hw bm e
  obtain⟨es,cl,hm,_⟩:=h.map
  rw [hm] at hc
  cases hc
 have g0:w0.grownBy w1 none:=⟨g.os.trans (gd.os.trans h.g.os),g.tape.trans (gd.tape.trans h.g.tape),g.output.trans (gd.output.trans h.g.output),Nat.le_trans h.g.size (Nat.le_trans gd.size g.size),fun k hk _=>by
  rw [g.block k (Nat.lt_of_lt_of_le hk (Nat.le_trans h.g.size gd.size)) (fun e=>by have:=(hw.lt k e.symm).1;omega),gd.block k (Nat.lt_of_lt_of_le hk h.g.size) (fun e=>by cases e)]
  exact h.g.block k hk (fun e=>by cases e)⟩
 have hb:w1.heap[s]?=some (.cells #[.int .i32 1,.int .u32 0,.int .i64 room,v,.map (some bm)] 126 (0,0)):=((g.block s (Nat.lt_of_lt_of_le h.lt gd.size) (fun e=>r1 e.symm)).trans (gd.block s h.lt (fun e=>by cases e))).trans h.blk
 have hmm:=(h.map.kept gd (by simp)).kept g (fun e=>r2 e.symm)
 have ne:bm≠s:=by
  obtain⟨es,cl,hm,_⟩:=hmm
  rintro rfl
  rw [hb] at hm
  cases hm
 have gs:=sl.grown_setCell w1 s 3 v'
 have nv:v'.ownBlock≠some s:=by
  intro e
  obtain⟨D2,_,hw2,_⟩:=ho
  obtain⟨c,fz,hc⟩:=own_kind hw2 s e
  rw [hb] at hc
  simp only [Option.some.injEq,Obj.cells.injEq] at hc
  exact shelf_ty hc.2.1.symm
 refine⟨by simp [World.cell?,hb],by simp [World.frozen?,hb],grown_in g0 gs h.hs,?_,ho.kept gs (fun k e=>by cases e;exact nv),(hmm.kept gs (by intro e;cases e;exact ne rfl)).mono hl,h.hs,h.hb⟩
 simp [World.setCell,Array.getElem?_modify,hb]
theorem frame3 {wr W1 w2 w3:World}{bm:Nat}{v:Value}{o:Obj}(g1:wr.grownBy W1 none)(g2:W1.drew.grownBy w2 (some bm))(g3:(w2.drew.alloc o).grownBy w3 v.ownBlock):∀ q,q<wr.heap.size→q≠bm→v.ownBlock≠some q→w3.heap[q]?=wr.heap[q]?:=by
 intro q hq h2 h3
 have l1:q<W1.drew.heap.size:=Nat.lt_of_lt_of_le hq g1.size
 have l2:q<w2.heap.size:=Nat.lt_of_lt_of_le l1 g2.size
 have ga:=World.grownBy_alloc w2.drew o none
 rw [g3.block q (Nat.lt_of_lt_of_le l2 ga.size) (fun e=>h3 e.symm),ga.block q l2 (fun e=>by cases e)]
 exact (g2.block q l1 (fun e=>h2 (by injection e))).trans (g1.block q hq (fun e=>by cases e))
set_option maxHeartbeats 1600000 in
theorem use_ (u:Value)(k:Kn)(s bm:Nat)(room:Int)(v:Value)(E:List Kn)(D:DataW Unit)(w0 wr:World)(h:Shf w0 wr s bm 1 room v E D)(hE:E.length≤1048576)(hd:k.dg.size≤maxLen)(hu:Vl w0 u k.vals) :
  Calls Tryz.prog 101 #[.pointer (some ⟨s,0,none⟩),.agg #[.string k.dg,.bool k.sat,u,.int .i64 k.cost]] wr fun e w'=>e=.returned (.tuple #[])∧∃ v',Shf w0 w' s bm 1 room v' (E++[k]) (D.put (key k.dg) (num E.length))∧(∀ q,q<wr.heap.size→q≠s→q≠bm→v.ownBlock≠some q→w'.heap[q]?=wr.heap[q]?)∧∀ q,v'.ownBlock=some q→v.ownBlock=some q∨wr.heap.size≤q:=by
 obtain⟨va,vc,rfl⟩:=h.own.len
 obtain⟨ua,uc,rfl,_⟩:=hu.sl
 obtain⟨dg,sat,vals,cost⟩:=k
 dsimp only at *
 obtain⟨W1,hW1⟩:∃ W1,W1=wr.alloc (.cells #[.string dg,.bool sat,.slice ua vals.length uc,.int .i64 cost] 36):=⟨_,rfl⟩
 have g1:wr.grownBy W1 none:=by rw [hW1];exact World.grownBy_alloc _ _ _
 have B1:Box4 36 W1 wr.heap.size (.string dg) (.bool sat) (.slice ua vals.length uc) (.int .i64 cost):=by rw [hW1];exact Box4.new _ _ _ _ _ _
 have S1:=h.kept g1
 have S1d:=S1.kept (cf.grown_drew W1 none)
 have B1d:=B1.kept (cf.grown_drew W1 none)
 obtain⟨w2,hst,hm2,ht2⟩:=S1d.map.store law Tryz.underlying117 (by unfold maxLen;omega) (keyOf_dg hd) (plainElem_int (H:=Unit) Tryz.underlying3 (wf_nat (n:=E.length) (by omega)))
 have S2:=S1d.map
 have hn2:E.length+1=(E++[(⟨dg,sat,vals,cost⟩:Kn)]).length:=by rw [List.length_append];rfl
 have T2:Shf2 w0 w2 s bm room (.slice va E.length vc) E (E.length+1) (D.put (key dg) (num E.length)):=⟨grown_in S1d.g ht2.grown S1d.hb,(ht2.grown.block s S1d.lt (fun e=>by injection e with e;exact S1d.ne e.symm)).trans S1d.blk,S1d.own.kept ht2.grown (fun k e=>by cases e;exact S1d.row_ne.2),hm2,S1d.hs,S1d.hb⟩
 have B2:=B1d.by ht2.grown (fun e=>by cases e;obtain⟨es,cl,hm,_⟩:=S1d.map;have:=B1d;unfold yb.Box4 at this;rw [hm] at this;cases this)
 obtain⟨c0,c2,c3,c4,fz⟩:=S1.cells
 have x0:=B1.c0
 have HT:=hide T2
 have HB:=hide B2
 have HU:=hide hu
 have HG:=hide g1
 have HT2:=hide ht2.grown
 clear hm2 ht2 S1 S1d B1 B1d S2 T2 B2 hu g1 h
 go_enter Tryz.func101,Tryz.ntmps101
 go_wp2_with fail
 rw [←hW1]
 clear hW1
 go_region
 have y0:=(unhide HB).c0
 have y1:=(unhide HB).c1
 have y2:=(unhide HB).c2
 have y3:=(unhide HB).c3
 have c3':w2.cell? ⟨s,3,none⟩=some (.slice va E.length vc):=by have:=(unhide HT).blk;simp [World.cell?,this]
 have f3':w2.frozen? ⟨s,3,none⟩=false:=by have:=(unhide HT).blk;simp [World.frozen?,this]
 have k9:(w2.alloc (.cells #[.string dg,.bool sat,.slice ua vals.length uc,.int .i64 cost] 36)).cell? ⟨s,3,none⟩=some (.slice va E.length vc):=(World.grownBy_alloc w2 _ none).cell c3' (fun e=>by cases e)
 have HO:Hid (OwnH w0 w2.drew (.slice va E.length vc) E):=(unhide HT).own.kept (cf.grown_drew w2 none) (fun k e=>by cases e)
 have hlo:w0.heap.size≤w2.drew.heap.size:=(unhide HT).g.size
 have HN:=hide hn2
 clear c0 c2 c3 c4 fz x0 hst hn2
 go_wp2_with fail
 go_region_law (first
  | (refine stepH (k:=⟨dg,sat,vals,cost⟩) (unhide HO) (unhide HU) rfl hlo hE (by rfl) _ _ (by rfl) (by rfl) (by rfl) ?_;intro g3 cap3 w3 h3 g3' hl3;have L3:=hide hl3;clear hl3;have R3:=hide ((unhide HT).grow g3' h3 (by rw [←unhide HN];exact Nat.le_refl _));have k3:=(unhide R3).1;have k4:=(unhide R3).2.1;have F3:=hide (frame3 (unhide HG) (unhide HT2) g3');clear h3 g3'))
 all_goals exact end0 rfl rfl ⟨rfl,_,(unhide R3).2.2,fun q hq h1 h2 h3=>(Below.heap_setCell _ _ _ _ h1).trans (unhide F3 q hq h2 h3),fun q hq=>by
  have e:g3=q:=by simpa [Value.ownBlock] using hq
  rcases unhide L3 with h | h
  ·exact .inl (by rw [←e];exact h)
  ·refine .inr ?_
   have a1:=(unhide HG).size
   have a2:W1.heap.size≤w2.heap.size:=(unhide HT2).size
   have a3:w2.drew.heap.size=w2.heap.size:=rfl
   omega⟩
def Told (D:DataW Unit)(d:ByteArray)(c:Int)(b:Bool):Prop:=D.atKey (key d) (num 0)=.lit (.int .i64 c)∧Maps.has D (key d)=b
theorem look {w:World}{bm n:Nat}{D:DataW Unit}{d:ByteArray}(h:w.ownsMap Tryz.prog 9 (plainElem Tryz.prog 3) bm n D)(hd:d.size≤maxLen) :
  ∃ c b,(Instr.lookup 117 (.map (some bm)) (.string d) true).run Tryz.prog w=.ok (.tuple #[.int .i64 c,.bool b]) w∧Told D d c b:=by
 obtain⟨v,ps,hrun,hv⟩:=h.look_ok law Tryz.underlying117 (zeroE w) (plainElem_int (H:=Unit) Tryz.underlying3 (wf_nat (n:=0) (by decide))) (keyOf_dg hd)
 obtain⟨c,rfl,hc,hwc⟩:=plainElem_int_inv Tryz.underlying3 hv
 exact⟨c,_,hrun,congrArg Prod.fst hc,rfl⟩
theorem Told.one {D:DataW Unit}{d:ByteArray}{c c':Int}{b b':Bool}(h:Told D d c b)(k:Told D d c' b'):c=c'∧b=b':=by
 obtain⟨h1,h2⟩:=h
 obtain⟨k1,k2⟩:=k
 rw [h1] at k1
 injection k1 with k1
 injection k1 with _ k1
 exact⟨k1,h2.symm.trans k2⟩
set_option maxHeartbeats 1600000 in
theorem stands (s bm i:Nat)(lk room:Int)(v:Value)(E:List Kn)(D:DataW Unit)(w0 wr:World)(c:Int)(b:Bool)(h:Shf w0 wr s bm lk room v E D)(hi:i<E.length)(hE:E.length≤1048577)(hd:(E.getD i kz).dg.size≤maxLen)(ht:Told D (E.getD i kz).dg c b) :
  Calls Tryz.prog 102 #[.pointer (some ⟨s,0,none⟩),.int .i64 (i:Int)] wr fun e w'=>e=.returned (.bool (b && (c == (i:Int))))∧wr.grownBy w' none:=by
 obtain⟨g,cap,u,rfl,e0,_⟩:=h.own.at hi
 obtain⟨c',b',hl,ht'⟩:=look (h.kept (cf.grown_drew wr none)).map hd
 obtain⟨rfl,rfl⟩:=ht.one ht'
 obtain⟨_,_,c3,c4,fz⟩:=h.cells
 have hi':(i:Int)<(E.length:Int):=by omega
 generalize (E.getD i kz).dg=d at *
 clear ht ht' h hd
 have HG:=hide (cf.grown_drew wr none)
 go_enter Tryz.func102,Tryz.ntmps102
 go_wp2_with fail
 go_region
 all_goals
  cases b
  ·go_wp2_with fail
   go_ret
   exact⟨rfl,unhide HG⟩
  ·go_wp2_with fail
   go_ret
   exact⟨rfl,unhide HG⟩
end Go.Proofs.YtnlllcgcaddhmaaGreatDoor.ua
namespace Go.Proofs.YtnlllcgcaddhmaaGreatDoor.ua
open Go.ChangeShapes Go.WideShapes Go.ChangeAt Go.RowKit
open sl (Sl Own ints marks hide unhide ret_int ret_bool grown_refl grown_trans grown_drewN below_of of_below)
open css (Outs outs_trans outs_none outs_by outs_refl own_mono own_sub own_outs own_kind)
open yb (Box4)
open cf (Box)
set_option linter.unusedVariables false
def CopyE (w:World)(k:Kn)(e:Ending)(w':World):Prop:=∃ v,e=.returned (.agg #[.string k.dg,.bool k.sat,v,.int .i64 k.cost])∧w'.ownsRow w.heap.size 3 1 v k.vals.length (ints k.vals)∧w.grownBy w' none
set_option maxHeartbeats 800000 in
theorem copyKnown (u:Value)(k:Kn)(w:World)(hL:k.vals.length≤1048576)(hu:Vl w u k.vals) :
  Calls Tryz.prog 65 #[.agg #[.string k.dg,.bool k.sat,u,.int .i64 k.cost]] w fun e w'=>CopyE w k e w':=by
 obtain⟨ua,uc,rfl,_⟩:=hu.sl
 obtain⟨dg,sat,vals,cost⟩:=k
 dsimp only at *
 obtain⟨W1,hW1⟩:∃ W1,W1=(w.alloc (.cells #[.string dg,.bool sat,.slice ua vals.length uc,.int .i64 cost] 36)).alloc (.cells #[.string ⟨#[]⟩,.bool false,.slice none 0 0,.int .i64 0] 36):=⟨_,rfl⟩
 have g1:w.grownBy W1 none:=by rw [hW1];exact grown_trans (World.grownBy_alloc _ _ _) (World.grownBy_alloc _ _ _)
 have s1:W1.heap.size=w.heap.size+1+1:=by rw [hW1];simp only [World.size_alloc]
 have b0:Box4 36 W1 w.heap.size (.string dg) (.bool sat) (.slice ua vals.length uc) (.int .i64 cost):=by rw [hW1];exact (Box4.new _ w _ _ _ _).kept (World.grownBy_alloc _ _ none)
 have b1:Box4 36 W1 (w.heap.size+1) (.string ⟨#[]⟩) (.bool false) (.slice none 0 0) (.int .i64 0):=by
  rw [hW1]
  have:=Box4.new 36 (w.alloc (.cells #[.string dg,.bool sat,.slice ua vals.length uc,.int .i64 cost] 36)) (.string ⟨#[]⟩) (.bool false) (.slice none 0 0) (.int .i64 0)
  rw [World.size_alloc] at this
  exact this
 have M2:=app.made_nil W1
 obtain⟨W2,hW2⟩:∃ W2,W2=W1.alloc (.cells #[] 3):=⟨_,rfl⟩
 rw [←hW2,s1] at M2
 have b02:=b0.kept M2.2
 have b12:=b1.kept M2.2
 obtain⟨lo,hi,hO⟩:=hu.kept (grown_trans (r:=none) g1 M2.2)
 have sz2:=M2.2.size
 have HM:=hide M2
 have B0:=hide b02
 have B1:=hide b12
 have HO:=hide hO
 have HG:=hide g1
 have x2:=b02.c2
 have hs1:w.heap.size+1+1≤W1.heap.size:=by omega
 rw [hW2,hW1] at x2
 clear M2 b0 b1 b02 b12 hO g1 hu
 go_enter Tryz.func65,Tryz.ntmps65
 subst hW2
 subst hW1
 go_wp2_with (at_builtin;refine app.appendI (unhide HM).2 (unhide HM).1 (unhide HO) (by simp;omega) rfl _ _ rfl rfl rfl ?_)
 intro v3 w3 m3 g3
 obtain⟨va,vc,rfl,_⟩:=Sl.of_own m3.1
 have C0:=hide ((unhide B0).by g3 (fun e=>by simp only [Value.ownBlock,Option.some.injEq] at e;omega))
 have C1:=hide ((unhide B1).by g3 (fun e=>by simp only [Value.ownBlock,Option.some.injEq] at e;omega))
 have R:=hide m3
 have y0:=(unhide C0).c0
 have y1:=(unhide C0).c1
 have y2:=(unhide C0).c2
 have y3:=(unhide C0).c3
 have yf:=(unhide C0).f 2
 have z0:=(unhide C1).c0
 have z1:=(unhide C1).c1
 have z2:=(unhide C1).c2
 have z3:=(unhide C1).c3
 have zf0:=(unhide C1).f 0
 have zf1:=(unhide C1).f 1
 have zf2:=(unhide C1).f 2
 have zf3:=(unhide C1).f 3
 clear m3 g3 B0 B1 HM HO x2
 go_wp2_with fail
 (try simp only [Exit.inBlock,Exit.then])
 refine bodyPost_ret (ret_known rfl rfl (((unhide C1).setO (d:=w.heap.size) (by omega)).setA _ _ _ _)) rfl ⟨_,rfl,?_,?_⟩
 ·exact own_mono (row_set (row_set (row_set (row_set (row_set (unhide R).1 (by omega)) (by omega)) (by omega)) (by omega)) (by omega)) (by omega)
 ·exact yb.grown_setA (yb.grown_set (grown_trans (r:=none) (unhide HG) (unhide R).2) (by omega)) (by omega)
set_option maxHeartbeats 800000 in
theorem l10CopyKnown (u:Value)(k:Kn)(w:World)(hL:k.vals.length≤1048576)(hu:Vl w u k.vals) :
  Calls Tryz.prog 91 #[.agg #[.string k.dg,.bool k.sat,u,.int .i64 k.cost]] w fun e w'=>CopyE w k e w':=by
 obtain⟨ua,uc,rfl,_⟩:=hu.sl
 obtain⟨dg,sat,vals,cost⟩:=k
 dsimp only at *
 obtain⟨W1,hW1⟩:∃ W1,W1=(w.alloc (.cells #[.string dg,.bool sat,.slice ua vals.length uc,.int .i64 cost] 36)).alloc (.cells #[.string ⟨#[]⟩,.bool false,.slice none 0 0,.int .i64 0] 36):=⟨_,rfl⟩
 have g1:w.grownBy W1 none:=by rw [hW1];exact grown_trans (World.grownBy_alloc _ _ _) (World.grownBy_alloc _ _ _)
 have s1:W1.heap.size=w.heap.size+1+1:=by rw [hW1];simp only [World.size_alloc]
 have b0:Box4 36 W1 w.heap.size (.string dg) (.bool sat) (.slice ua vals.length uc) (.int .i64 cost):=by rw [hW1];exact (Box4.new _ w _ _ _ _).kept (World.grownBy_alloc _ _ none)
 have b1:Box4 36 W1 (w.heap.size+1) (.string ⟨#[]⟩) (.bool false) (.slice none 0 0) (.int .i64 0):=by
  rw [hW1]
  have:=Box4.new 36 (w.alloc (.cells #[.string dg,.bool sat,.slice ua vals.length uc,.int .i64 cost] 36)) (.string ⟨#[]⟩) (.bool false) (.slice none 0 0) (.int .i64 0)
  rw [World.size_alloc] at this
  exact this
 have M2:=app.made_nil W1
 obtain⟨W2,hW2⟩:∃ W2,W2=W1.alloc (.cells #[] 3):=⟨_,rfl⟩
 rw [←hW2,s1] at M2
 have b02:=b0.kept M2.2
 have b12:=b1.kept M2.2
 obtain⟨lo,hi,hO⟩:=hu.kept (grown_trans (r:=none) g1 M2.2)
 have sz2:=M2.2.size
 have HM:=hide M2
 have B0:=hide b02
 have B1:=hide b12
 have HO:=hide hO
 have HG:=hide g1
 have x2:=b02.c2
 have hs1:w.heap.size+1+1≤W1.heap.size:=by omega
 rw [hW2,hW1] at x2
 clear M2 b0 b1 b02 b12 hO g1 hu
 go_enter Tryz.func91,Tryz.ntmps91
 subst hW2
 subst hW1
 go_wp2_with (at_builtin;refine app.appendI (unhide HM).2 (unhide HM).1 (unhide HO) (by simp;omega) rfl _ _ rfl rfl rfl ?_)
 intro v3 w3 m3 g3
 obtain⟨va,vc,rfl,_⟩:=Sl.of_own m3.1
 have C0:=hide ((unhide B0).by g3 (fun e=>by simp only [Value.ownBlock,Option.some.injEq] at e;omega))
 have C1:=hide ((unhide B1).by g3 (fun e=>by simp only [Value.ownBlock,Option.some.injEq] at e;omega))
 have R:=hide m3
 have y0:=(unhide C0).c0
 have y1:=(unhide C0).c1
 have y2:=(unhide C0).c2
 have y3:=(unhide C0).c3
 have yf:=(unhide C0).f 2
 have z0:=(unhide C1).c0
 have z1:=(unhide C1).c1
 have z2:=(unhide C1).c2
 have z3:=(unhide C1).c3
 have zf0:=(unhide C1).f 0
 have zf1:=(unhide C1).f 1
 have zf2:=(unhide C1).f 2
 have zf3:=(unhide C1).f 3
 clear m3 g3 B0 B1 HM HO x2
 go_wp2_with fail
 (try simp only [Exit.inBlock,Exit.then])
 refine bodyPost_ret (ret_known rfl rfl (((unhide C1).setO (d:=w.heap.size) (by omega)).setA _ _ _ _)) rfl ⟨_,rfl,?_,?_⟩
 ·exact own_mono (row_set (row_set (row_set (row_set (row_set (unhide R).1 (by omega)) (by omega)) (by omega)) (by omega)) (by omega)) (by omega)
 ·exact yb.grown_setA (yb.grown_set (grown_trans (r:=none) (unhide HG) (unhide R).2) (by omega)) (by omega)
theorem growK {lo mid:Nat}{wr w1:World}{v v' u:Value}{D:List (Value × Kn)}{k:Kn}{o:Obj}(ho:wr.ownsRow lo 36 4 v D.length (cells4 D))(hin:∀ p∈D,Own lo mid wr p.1 p.2.vals)(hp:D.Pairwise Apart)
  (hu:Own mid wr.heap.size wr u k.vals) (hlo:lo≤mid) (hmid:mid≤wr.heap.size) (h1:w1.ownsRow lo 36 4 v' (D.length+1) (cells4 D++four u k)) (hg:(wr.alloc o).grownBy w1 v.ownBlock) :
  OwnK lo w1.heap.size w1 v' (D.map (·.2)++[k]):=by
 have sz:=hg.size
 simp only [World.size_alloc] at sz
 have hoA:=ho.alloc o
 have kp:∀ (p:Value) (n:Nat) (xs:List Value),wr.ownsRow lo 3 1 p n xs→w1.ownsRow lo 3 1 p n xs:=fun p n xs h=>(h.alloc o).kept hg (own_ne' hoA (h.alloc o))
 refine⟨D++[(u,k)],by simp,?_,fun k e=>(h1.lt k e).2,?_,?_⟩
 ·rw [List.length_append,cells4_append]
  exact h1
 ·intro p hp'
  rw [List.mem_append,List.mem_singleton] at hp'
  rcases hp' with hp' | rfl
  ·exact⟨kp _ _ _ (hin p hp').1,fun k e=>by have:=(hin p hp').2 k e;omega⟩
  ·exact⟨kp _ _ _ (own_mono hu.1 hlo),fun k e=>by have:=hu.2 k e;omega⟩
 ·rw [List.pairwise_append]
  refine⟨hp,List.pairwise_singleton _ _,fun a ha b hb=>?_⟩
  rw [List.mem_singleton] at hb
  subst hb
  intro k e e'
  have h1:=(hin a ha).2 k e
  have h2:=(hu.1.lt k e').1
  omega
theorem own_one {lo hi:Nat}{w:World}{u:Value}{L:List Int}(h:Own lo hi w u L):u.oneCell'=true:=by
 obtain⟨_,h2⟩:=h.1
 rcases h2 with ⟨rfl,_⟩ | ⟨g,cap,cur,rfl,_⟩ <;> rfl
theorem four_at (wr:World)(u:Value)(k:Kn):∀ j y,(four u k)[j]?=some y→(wr.alloc (.cells #[.string k.dg,.bool k.sat,u,.int .i64 k.cost] 36)).cell? ((⟨wr.heap.size,0,none⟩:Addr).add j)=some y:=by
 intro j y hj
 have hb:=Go.heap_alloc_new wr (.cells #[.string k.dg,.bool k.sat,u,.int .i64 k.cost] 36)
 rw [Addr.add_lit,Nat.zero_add]
 unfold World.cell?
 rw [hb,←hj]
 unfold four
 simp
theorem four_one {u:Value}(k:Kn)(h1:u.oneCell'=true):∀ y∈four u k,y.oneCell'=true:=by
 intro y hy
 simp only [four,List.mem_cons,List.not_mem_nil,or_false] at hy
 rcases hy with rfl | rfl | rfl | rfl
 ·rfl
 ·rfl
 ·exact h1
 ·rfl
theorem appK {ops:Array Oper}{rest:List Oper}{o:Oper}{a:Act}{Q:Exit→Act→World→Prop}{lo mid:Nat}{wr:World}{v u:Value}{M:List Kn}{k:Kn}
  (h:OwnK lo mid wr v M) (hu:Own mid wr.heap.size wr u k.vals) (hlo:lo≤mid) (hmid:mid≤wr.heap.size) (hM:M.length≤1048576) (hgd:o.guard=none) (s x:Operand)
  (ho:o.op=.call { callee:=.builtin .append,args:=#[s,x],argTypes:=#[28,28] }) (hs:a.eval s=v) (hx:a.eval x=.slice (some ⟨wr.heap.size,0,none⟩) 1 1)
  (hK:∀ g cap w1,OwnK lo w1.heap.size w1 (.slice (some ⟨g,0,none⟩) (M.length+1) cap) (M++[k])→(wr.alloc (.cells #[.string k.dg,.bool k.sat,u,.int .i64 k.cost] 36)).grownBy w1 v.ownBlock→wpList Tryz.prog ops Q rest (a.put o.dst (.slice (some ⟨g,0,none⟩) (M.length+1) cap)) w1) :
  wpList Tryz.prog ops Q (o::rest) a (wr.alloc (.cells #[.string k.dg,.bool k.sat,u,.int .i64 k.cost] 36)):=by
 obtain⟨i0,hi,hz0,hz1,hz2⟩:=info_parts infoK
 obtain⟨D,rfl,hw,hb,hin,hp⟩:=h
 rw [List.length_map] at *
 refine wpList_append_lies _ hgd s x 28 ho lo 36 i0 (.agg #[.string ⟨#[]⟩,.bool false,.slice none 0 0,.int .i64 0]) 4 56 Tryz.underlying28 hi hz0 hz1 hz2 rfl (by decide) v D.length (cells4 D) hs (hw.alloc _) ⟨wr.heap.size,0,none⟩ 1 1 (four u k) hx rfl (four_at wr u k) (four_one k (own_one hu)) (by decide) ?_ ?_ ?_ (wr.heap.size+1) (World.size_alloc ..) ?_
 ·unfold maxLen;omega
 ·omega
 ·simp;omega
 ·intro g cap w1 h1 hg _ _
  exact hK g cap w1 (growK hw hin hp hu hlo hmid h1 hg) hg
theorem stepK {ops:Array Oper}{o:Oper}{a:Act}{K:Act→World→Prop}{Q:Exit→Act→World→Prop}{X:Prop}{lo mid:Nat}{wr:World}{v u:Value}{M:List Kn}{k:Kn}
  (h:OwnK lo mid wr v M) (hu:Own mid wr.heap.size wr u k.vals) (hlo:lo≤mid) (hmid:mid≤wr.heap.size) (hM:M.length≤1048576) (hgd:o.guard=none) (s x:Operand)
  (ho:o.op=.call { callee:=.builtin .append,args:=#[s,x],argTypes:=#[28,28] }) (hs:a.eval s=v) (hx:a.eval x=.slice (some ⟨wr.heap.size,0,none⟩) 1 1)
  (hK:∀ g cap w1,OwnK lo w1.heap.size w1 (.slice (some ⟨g,0,none⟩) (M.length+1) cap) (M++[k])→(wr.alloc (.cells #[.string k.dg,.bool k.sat,u,.int .i64 k.cost] 36)).grownBy w1 v.ownBlock→K (a.put o.dst (.slice (some ⟨g,0,none⟩) (M.length+1) cap)) w1) :
  if Region.wanted o (yielded ops a.tmps)=true then Oper.wp Tryz.prog o a (wr.alloc (.cells #[.string k.dg,.bool k.sat,u,.int .i64 k.cost] 36)) K Q else X:=by
 obtain⟨i0,hi,hz0,hz1,hz2⟩:=info_parts infoK
 obtain⟨D,rfl,hw,hb,hin,hp⟩:=h
 rw [List.length_map] at *
 refine step_append_lies _ hgd s x 28 ho lo 36 i0 (.agg #[.string ⟨#[]⟩,.bool false,.slice none 0 0,.int .i64 0]) 4 56 Tryz.underlying28 hi hz0 hz1 hz2 rfl (by decide) v D.length (cells4 D) hs (hw.alloc _) ⟨wr.heap.size,0,none⟩ 1 1 (four u k) hx rfl (four_at wr u k) (four_one k (own_one hu)) (by decide) ?_ ?_ ?_ (wr.heap.size+1) (World.size_alloc ..) ?_
 ·unfold maxLen;omega
 ·omega
 ·simp;omega
 ·intro g cap w1 h1 hg _ _
  exact hK g cap w1 (growK hw hin hp hu hlo hmid h1 hg) hg
def CacheE (w:World)(room:Int)(KK:List Kn)(e:Ending)(w':World):Prop:=∃ u,e=.returned (.agg #[.int .i64 room,u])∧OwnK w.heap.size w'.heap.size w' u KK∧w.grownBy w' none
theorem grown_app {lo mid:Nat}{w w1 w2:World}{o:Obj}{v:Value}{M:List Kn}(g:w.grownBy w1 none)(h:OwnK w.heap.size mid w1 v M)(g1:(w1.alloc o).grownBy w2 v.ownBlock):w.grownBy w2 none:=by
 obtain⟨D,_,hw,_⟩:=h
 have hgA:w.grownBy (w1.alloc o) none:=grown_trans g (World.grownBy_alloc w1 o none)
 exact⟨g1.os.trans hgA.os,g1.tape.trans hgA.tape,g1.output.trans hgA.output,Nat.le_trans hgA.size g1.size,fun k hk _=>by
  rw [g1.block k (Nat.lt_of_lt_of_le hk hgA.size) (fun e=>by have:=(hw.lt k e.symm).1;omega)]
  exact hgA.block k hk (fun e=>by cases e)⟩
end Go.Proofs.YtnlllcgcaddhmaaGreatDoor.ua
namespace Go.Proofs.YtnlllcgcaddhmaaGreatDoor.ua
open Go.ChangeShapes Go.WideShapes Go.ChangeAt Go.RowKit Go.Maps Go.MuLone
open sl (Sl Own ints marks hide unhide ret_int ret_bool grown_refl grown_trans grown_drewN below_of of_below)
open css (Outs outs_trans outs_none outs_by outs_refl own_mono own_sub own_outs own_kind)
open yb (Box4)
open cf (Box)
set_option linter.unusedVariables false
def costB (c:Int):Bool:=decide (0≤c) && decide (c≤1000000)
def newTo (E:List Kn)(d:ByteArray):Nat→Bool
 | 0=>true
 | n+1=>newTo E d n && !((E.getD n kz).dg.data.toList == d.data.toList)
def okTo (E:List Kn):Nat→Bool
 | 0=>true
 | n+1=>okTo E n && (newTo E (E.getD n kz).dg n && costB (E.getD n kz).cost)
def okC (room:Int)(E:List Kn):Bool:=(decide (0≤room) && decide (room≤50) && decide ((E.length:Int)≤room)) && okTo E E.length
theorem dg_eq {a b:ByteArray}:(a.data.toList == b.data.toList)=true↔a=b:=by
 rw [beq_iff_eq]
 constructor
 ·intro h
  apply ByteArray.ext
  exact Array.toList_inj.1 h
 ·rintro rfl
  rfl
theorem newTo_iff (E:List Kn)(d:ByteArray):∀ n,newTo E d n=true↔∀ i,i<n→(E.getD i kz).dg≠d
 | 0=>⟨fun _ i hi=>by omega,fun _=>rfl⟩
 | n+1=>by
  unfold newTo
  rw [Bool.and_eq_true,newTo_iff E d n,Bool.not_eq_true',←Bool.not_eq_true,dg_eq]
  constructor
  ·rintro⟨h1,h2⟩ i hi
   rcases Nat.lt_succ_iff_lt_or_eq.1 hi with h | rfl
   ·exact h1 i h
   ·exact h2
  ·intro h
   exact⟨fun i hi=>h i (by omega),h n (by omega)⟩
theorem newTo_dm (E:List Kn)(d:ByteArray)(n:Nat):Maps.has (dmAt E n) (key d)=!(newTo E d n):=by
 rw [Bool.eq_iff_iff,has_dm,Bool.not_eq_true',←Bool.not_eq_true,newTo_iff]
 constructor
 ·rintro⟨i,hi,e⟩ h
  exact h i hi e
 ·intro h
  exact Classical.byContradiction fun q=>h fun i hi e=>q ⟨i,hi,e⟩
theorem okTo_dist (E:List Kn):∀ n,okTo E n=true→Dist E n
 | 0,_=>fun i j _ hj=>by omega
 | n+1,h=>by
  unfold okTo at h
  rw [Bool.and_eq_true,Bool.and_eq_true] at h
  intro i j hij hj
  rcases Nat.lt_succ_iff_lt_or_eq.1 hj with q | rfl
  ·exact okTo_dist E n h.1 i j hij q
  ·exact (newTo_iff E _ j).1 h.2.1 i hij
theorem okTo_less (E:List Kn){n:Nat}:∀ {m:Nat},n≤m→okTo E n=false→okTo E m=false
 | 0,h,q=>by rw [show n=0 by omega] at q;exact q
 | m+1,h,q=>by
  by_cases e:n=m+1
  ·rw [←e];exact q
  ·unfold okTo
   rw [okTo_less E (m:=m) (by omega) q]
   rfl
theorem clear_own {w:World}{bm n:Nat}{D:DataW Unit}(h:w.ownsMap Tryz.prog 9 (plainElem Tryz.prog 3) bm n D) :
  ∃ w',(∀ ty,(Builtin.clear_ #[117] ty #[.map (some bm)]).run Tryz.prog w=.ok (.tuple #[]) w')∧w'.ownsMap Tryz.prog 9 (plainElem (H:=Unit) Tryz.prog 3) bm 0 (.map [])∧w.mapTurned w' bm:=by
 obtain⟨es,clock,hb,F,hs,rfl⟩:=h
 refine⟨ChangeMaps.setBlock w bm (.map #[] clock),fun ty=>?_,⟨#[],clock,?_,⟨by simp,MapKept.stamped_empty clock,by simp⟩,Nat.le_refl _,rfl⟩,⟨es,clock,#[],clock,hb,rfl⟩⟩
 ·simp [Builtin.clear_,run_underlying Tryz.underlying117,MapKept.run_getObj_map hb,MapKept.run_setObj_map _ hb,Result.andThen,ChangeMaps.setBlock]
 ·have:=(Array.getElem?_eq_some_iff.1 hb).1
  simp [ChangeMaps.setBlock,this]
theorem costOk (c:Int)(w:World):Calls Tryz.prog 66 #[.int .i64 c] w fun e w'=>e=.returned (.bool (costB c))∧w'=w:=by
 by_cases h0:0≤c
 ·by_cases h1:c≤1000000
  ·have e:Hid (costB c=true):=by show _=_;unfold costB;rw [decide_eq_true h0,decide_eq_true h1];rfl
   go_enter Tryz.func66,Tryz.ntmps66
   go_wp2
   go_ret
   exact⟨by rw [unhide e];rfl,rfl⟩
  ·have e:Hid (costB c=false):=by show _=_;unfold costB;rw [decide_eq_true h0,decide_eq_false h1];rfl
   go_enter Tryz.func66,Tryz.ntmps66
   go_wp2
   go_ret
   exact⟨by rw [unhide e];rfl,rfl⟩
 ·have e:Hid (costB c=false):=by show _=_;unfold costB;rw [decide_eq_false h0];rfl
  go_enter Tryz.func66,Tryz.ntmps66
  go_wp2
  go_ret
  exact⟨by rw [unhide e];rfl,rfl⟩
def FillE (w0:World)(s bm:Nat)(room:Int)(KK:List Kn)(e:Ending)(w':World):Prop:=e=.returned (.bool (okC room KK))∧∃ room' v E D,Shf w0 w' s bm 0 room' v E D∧(okC room KK=true→room'=room∧E=KK∧D=dmAt KK KK.length)∧(okC room KK=false→D=.map [])
theorem FillE.bad {w0 wr:World}{s bm:Nat}{room room':Int}{KK E:List Kn}{v:Value}(h:Shf w0 wr s bm 1 room' v E (.map []))(ho:okC room KK=false):FillE w0 s bm room KK (.returned (.bool false)) (wr.setCell ⟨s,0,none⟩ (.int .i32 0)) :=
 ⟨by rw [ho],room',v,E,_,h.lock 0,(fun q=>by rw [ho] at q;cases q),fun _=>rfl⟩
theorem okC_room {room:Int}{KK:List Kn}(h:room<0∨50<room∨room<(KK.length:Int)):okC room KK=false:=by
 unfold okC
 rcases h with h | h | h
 ·rw [decide_eq_false (by omega)];simp
 ·rw [decide_eq_false (show ¬ room≤50 by omega)];simp
 ·rw [decide_eq_false (show ¬ (KK.length:Int)≤room by omega)];simp
theorem okC_fine {room:Int}{KK:List Kn}(h0:0≤room)(h1:room≤50)(h2:(KK.length:Int)≤room):okC room KK=okTo KK KK.length:=by
 unfold okC
 rw [decide_eq_true h0,decide_eq_true h1,decide_eq_true h2]
 rfl
set_option maxRecDepth 10000 in
set_option maxHeartbeats 4000000 in
theorem fill (v:Value)(room:Int)(KK:List Kn)(s bm:Nat)(w0 wr:World)(h:Shf w0 wr s bm 0 0 (.slice none 0 0) [] (.map []))(hn:KK.length≤1048576)(hd:∀ i,(KK.getD i kz).dg.size≤maxLen)(hv:VKns w0 v KK) :
  Calls Tryz.prog 92 #[.pointer (some ⟨s,0,none⟩),.agg #[.int .i64 room,v]] wr fun e w'=>FillE w0 s bm room KK e w':=by
 obtain⟨a,cap,rfl,ha⟩:=hv
 obtain⟨W1,hW1⟩:∃ W1,W1=wr.alloc (.cells #[.int .i64 room,.slice a KK.length cap] 30):=⟨_,rfl⟩
 have g1:wr.grownBy W1 none:=by rw [hW1];exact World.grownBy_alloc _ _ _
 have B1:Box 30 W1 wr.heap.size (.int .i64 room) (.slice a KK.length cap):=by rw [hW1];exact Box.new _ _ _ _
 have S1:=h.kept g1
 have C1:=hide (lock_free Tryz.muLib ⟨s,0,none⟩ W1 S1.cells.1 (S1.cells.2.2.2.2 0))
 have S2:=S1.lock 1
 have B2:=B1.setO (d:=s) (i:=0) (u:=.int .i32 1) (fun e=>by have:=h.lt;omega)
 generalize W1.setCell ⟨s,0,none⟩ (.int .i32 1)=W2 at *
 have hne:¬ s=wr.heap.size:=by have:=h.lt;omega
 have SL:=hide S2
 have B:=hide B2
 have HA:=hide ha
 have HD:=hide hd
 clear g1 B1 S1 S2 B2 h ha hd
 go_enter_defers Tryz.func92,Tryz.ntmps92
 go_wp2_with fail
 rw [←hW1]
 clear hW1
 refine (unhide C1).mono ?_;rintro e w' ⟨rfl,rfl⟩
 clear C1
 have b0:=(unhide B).c0
 have b1:=(unhide B).c1
 by_cases r0:room<0
 ·have HO:=hide (okC_room (room:=room) (KK:=KK) (.inl r0))
  go_wp2_with fail
  refine leaves_cons (f:=100) (args:=#[.pointer (some ⟨s,0,none⟩)]) (by simp) (by simp [go_sem]) ?_
  refine (unlock_deferred Tryz.muLib ⟨s,0,none⟩ .returning _ ?_ ?_).mono ?_
  ·exact (unhide SL).cells.1
  ·exact (unhide SL).cells.2.2.2.2 0
  rintro e u' w'' ⟨rfl,rfl,rfl⟩
  simp [Leaves,settle]
  refine⟨_,results_tmp (t:=4) rfl _ _ _,?_⟩
  exact FillE.bad (unhide SL) (unhide HO)
 by_cases r1:50<room
 ·have HO:=hide (okC_room (room:=room) (KK:=KK) (.inr (.inl r1)))
  go_wp2_with fail
  refine leaves_cons (f:=100) (args:=#[.pointer (some ⟨s,0,none⟩)]) (by simp) (by simp [go_sem]) ?_
  refine (unlock_deferred Tryz.muLib ⟨s,0,none⟩ .returning _ ?_ ?_).mono ?_
  ·exact (unhide SL).cells.1
  ·exact (unhide SL).cells.2.2.2.2 0
  rintro e u' w'' ⟨rfl,rfl,rfl⟩
  simp [Leaves,settle]
  refine⟨_,results_tmp (t:=4) rfl _ _ _,?_⟩
  exact FillE.bad (unhide SL) (unhide HO)
 by_cases r2:room<(KK.length:Int)
 ·have HO:=hide (okC_room (room:=room) (KK:=KK) (.inr (.inr r2)))
  go_wp2_with fail
  refine leaves_cons (f:=100) (args:=#[.pointer (some ⟨s,0,none⟩)]) (by simp) (by simp [go_sem]) ?_
  refine (unlock_deferred Tryz.muLib ⟨s,0,none⟩ .returning _ ?_ ?_).mono ?_
  ·exact (unhide SL).cells.1
  ·exact (unhide SL).cells.2.2.2.2 0
  rintro e u' w'' ⟨rfl,rfl,rfl⟩
  simp [Leaves,settle]
  refine⟨_,results_tmp (t:=4) rfl _ _ _,?_⟩
  exact FillE.bad (unhide SL) (unhide HO)
 have HO:=hide (okC_fine (room:=room) (KK:=KK) (by omega) (by omega) (by omega))
 have SR:=hide ((unhide SL).room room)
 have k2:=(unhide SL).cells.2.1
 have kf:=(unhide SL).cells.2.2.2.2 2
 obtain⟨W3,hW3⟩:∃ W3,W3=w'.setCell ⟨s,2,none⟩ (.int .i64 room):=⟨_,rfl⟩
 rw [←hW3] at SR
 have b1':W3.cell? ⟨wr.heap.size,1,none⟩=some (.slice a KK.length cap):=by rw [hW3];exact ((unhide B).setO (d:=s) (i:=2) (u:=.int .i64 room) hne).c1
 clear SL B
 go_upto_region 6 with fail
 rw [←hW3]
 clear hW3 b0 b1 k2 kf hne
 go_wp2_with fail
 clear b1'
 have SL0:Hid (Shf w0 W3 s bm 1 room (.slice none 0 0) (KK.take 0) (dmAt KK 0)):=unhide SR
 clear SR
 go_loopw [40] (fun i wx=>∃ j:Nat,j≤KK.length∧i=.int .i64 j∧okTo KK j=true∧∃ v',Hid (Shf w0 wx s bm 1 room v' (KK.take j) (dmAt KK j))) (fun i _=>KK.length - (intOf i).toNat)
 case atStart=>exact⟨0,Nat.zero_le _,rfl,rfl,_,SL0⟩
 case round =>
  obtain⟨j,hj,rfl,hok,v',SX⟩:=hrel
  clear SL0
  have HK:=hide hok
  clear hok
  by_cases hlt:j<KK.length
  ·rcases unhide HA with h | ⟨b,off,rfl,hb,hcb⟩
   ·rw [h] at hlt
    simp at hlt
   ·obtain⟨u,hu,hvl⟩:=hcb j hlt
    have HS:=hide hvl
    clear hvl
    obtain⟨c0,c1,c2,c3,_⟩:=hu.kept (unhide SX).g
    have htk:=take_snoc KK j hlt
    have hjl:(KK.take j).length=j:=by rw [List.length_take];omega
    have hst:dmAt KK (j+1)=(dmAt KK j).put (key (KK.getD j kz).dg) (num j):=rfl
    have hok1:okTo KK (j+1)=(okTo KK j && (newTo KK (KK.getD j kz).dg j && costB (KK.getD j kz).cost)):=rfl
    have hnw:=newTo_dm KK (KK.getD j kz).dg j
    have hdd:=unhide HD j
    have hi':(j:Int)<(KK.length:Int):=by omega
    generalize KK.getD j kz=x at *
    obtain⟨dg,sat,vals,cost⟩:=x
    dsimp only at *
    obtain⟨ua,uc,rfl,_⟩:=hu.2.2.2.2
    obtain⟨W4,hW4⟩:∃ W4,W4=wr.alloc (.cells #[.string dg,.bool sat,.slice ua vals.length uc,.int .i64 cost] 36):=⟨_,rfl⟩
    have g4:wr.grownBy W4 none:=by rw [hW4];exact World.grownBy_alloc _ _ _
    have B4:Hid (Box4 36 W4 wr.heap.size (.string dg) (.bool sat) (.slice ua vals.length uc) (.int .i64 cost)):=by rw [hW4];exact Box4.new _ _ _ _ _ _
    have S4:=hide ((unhide SX).kept g4)
    have S5:=hide ((unhide S4).kept (cf.grown_drew W4 none))
    have B5:=hide ((unhide B4).kept (cf.grown_drew W4 none))
    obtain⟨c,b2,hlk,htd⟩:=look (unhide S5).map hdd
    have hb2:b2=!(newTo KK dg j):=htd.2.symm.trans hnw
    have m4:=(unhide S4).cells.2.2.2.1
    have d4:=(unhide B4).c0
    have CC:=hide (fun w=>costOk cost w)
    have HOK:=hide hok1
    have HDM:=hide hst
    have HTK:=hide htk
    have HJL:=hide hjl
    clear g4 hu hcb htd hnw htk hjl hst hok1 SX
    go_upto_region 9 with fail
    rw [←hW4]
    clear hW4 c0 c1 c2 c3
    go_region
    generalize wr.heap.size=kb at *
    have y3:=(unhide B5).c3
    have y0:=(unhide B5).c0
    have y1:=(unhide B5).c1
    have y2:=(unhide B5).c2
    have m5:=(unhide S5).cells.2.2.2.1
    have BADC:Hid (∀ w7,W4.drew.mapTurned w7 bm→w7.ownsMap Tryz.prog 9 (plainElem (H:=Unit) Tryz.prog 3) bm 0 (.map [])→Shf w0 w7 s bm 1 room v' (KK.take j) (.map [])):=fun w7 ht hm=>(unhide S5).turn ht.grown hm (Nat.zero_le _)
    clear hlk d4 m4 B4 S4
    cases hnb:newTo KK dg j
    ·rw [hnb] at hb2 HOK
     have eb2:b2=true:=hb2
     subst eb2
     clear hb2 hnb CC HTK HJL HDM
     obtain⟨w7,hcl,hm7,ht7⟩:=clear_own (unhide S5).map
     have SL:=hide (unhide BADC w7 ht7 hm7)
     have HF:Hid (okC room KK=false):=by show _=_;rw [unhide HO];exact okTo_less KK hlt (by rw [unhide HOK];simp)
     clear hm7 ht7 BADC
     go_wp2_with fail
     refine leaves_cons (f:=100) (args:=#[.pointer (some ⟨s,0,none⟩)]) (by simp) (by simp [go_sem]) ?_
     refine (unlock_deferred Tryz.muLib ⟨s,0,none⟩ .returning _ ?_ ?_).mono ?_
     ·exact (unhide SL).cells.1
     ·exact (unhide SL).cells.2.2.2.2 0
     rintro e u' w'' ⟨rfl,rfl,rfl⟩
     simp [Leaves,settle]
     refine⟨_,results_tmp (t:=4) rfl _ _ _,?_⟩
     exact FillE.bad (unhide SL) (unhide HF)
    ·rw [hnb] at hb2 HOK
     have eb2:b2=false:=hb2
     subst eb2
     clear hb2 hnb
     cases hcb:costB cost
     ·rw [hcb] at CC HOK
      obtain⟨w7,hcl,hm7,ht7⟩:=clear_own (unhide S5).map
      have SL:=hide (unhide BADC w7 ht7 hm7)
      have HF:Hid (okC room KK=false):=by show _=_;rw [unhide HO];exact okTo_less KK hlt (by rw [unhide HOK];simp)
      clear hm7 ht7 BADC HTK HJL HDM hcb
      go_wp2_with fail
      refine (unhide CC _).mono ?_;rintro e w8 ⟨rfl,hw⟩;have hw':=hw.symm;clear hw;subst hw'
      go_wp2_with fail
      refine leaves_cons (f:=100) (args:=#[.pointer (some ⟨s,0,none⟩)]) (by simp) (by simp [go_sem]) ?_
      refine (unlock_deferred Tryz.muLib ⟨s,0,none⟩ .returning _ ?_ ?_).mono ?_
      ·exact (unhide SL).cells.1
      ·exact (unhide SL).cells.2.2.2.2 0
      rintro e u' w'' ⟨rfl,rfl,rfl⟩
      simp [Leaves,settle]
      refine⟨_,results_tmp (t:=4) rfl _ _ _,?_⟩
      exact FillE.bad (unhide SL) (unhide HF)
     ·rw [hcb] at CC HOK
      clear BADC hcb
      have CU:=hide (use_ (.slice ua vals.length uc) ⟨dg,sat,vals,cost⟩ s bm room v' (KK.take j) (dmAt KK j) w0 W4.drew (unhide S5) (by rw [unhide HJL];omega) hdd (unhide HS))
      dsimp only at CU
      go_wp2_with fail
      refine (unhide CC _).mono ?_;rintro e w8 ⟨rfl,hw⟩;have hw':=hw.symm;clear hw;subst hw'
      go_wp2_with fail
      refine (unhide CU).mono ?_;rintro e w9 ⟨rfl,v9,S9,_,_⟩
      rw [unhide HJL,←unhide HTK,←unhide HDM] at S9
      have SY:=hide S9
      have HK1:Hid (okTo KK (j+1)=true):=by show _=_;rw [unhide HOK,unhide HK];rfl
      clear S9 CU CC S5 B5 HS
      go_wp2_with fail
      go_roundw
      case rel=>exact⟨j+1,by omega,by go_num,unhide HK1,v9,SY⟩
      case measure=>simp [intOf];omega
  ·have hi':¬ (j:Int)<(KK.length:Int):=by omega
   have hjj:j=KK.length:=by omega
   have SL:Hid (Shf w0 wr s bm 1 room v' KK (dmAt KK KK.length)):=by
    have:=unhide SX
    rw [hjj,List.take_length] at this
    exact this
   have HF:Hid (okC room KK=true):=by show _=_;rw [unhide HO,←hjj];exact unhide HK
   clear SX HK hjj HA HD
   go_wp2_with fail
   refine leaves_cons (f:=100) (args:=#[.pointer (some ⟨s,0,none⟩)]) (by simp) (by simp [go_sem]) ?_
   refine (unlock_deferred Tryz.muLib ⟨s,0,none⟩ .returning _ ?_ ?_).mono ?_
   ·exact (unhide SL).cells.1
   ·exact (unhide SL).cells.2.2.2.2 0
   rintro e u' w'' ⟨rfl,rfl,rfl⟩
   simp [Leaves,settle]
   refine⟨_,results_tmp (t:=4) rfl _ _ _,?_⟩
   exact⟨by rw [unhide HF];rfl,room,v',KK,_,(unhide SL).lock 0,(fun _=>⟨rfl,rfl,rfl⟩),(fun q=>by rw [unhide HF] at q;cases q)⟩
end Go.Proofs.YtnlllcgcaddhmaaGreatDoor.ua
namespace Go.Proofs.YtnlllcgcaddhmaaGreatDoor.ua
open Go.ChangeShapes Go.WideShapes Go.ChangeAt Go.RowKit Go.Maps Go.MuLone
open sl (Sl Own ints marks hide unhide ret_int ret_bool grown_refl grown_trans grown_drewN below_of of_below)
open css (Outs outs_trans outs_none outs_by outs_refl own_mono own_sub own_outs own_kind)
open yb (Box4)
open cf (Box)
set_option linter.unusedVariables false
set_option maxRecDepth 10000 in
set_option maxHeartbeats 4000000 in
theorem copyCache (v:Value)(room:Int)(KK:List Kn)(w:World)(hn:KK.length≤1048576)(hin:∀ i,(KK.getD i kz).vals.length≤1048576)(hv:VKns w v KK) :
  Calls Tryz.prog 32 #[.agg #[.int .i64 room,v]] w fun e w'=>CacheE w room KK e w':=by
 obtain⟨a,cap,rfl⟩:=hv.len
 obtain⟨i0,hi,hz0,hz1,hz2⟩:=info_parts infoK
 obtain⟨W1,hW1⟩:∃ W1,W1=(w.alloc (.cells #[.int .i64 room,.slice a KK.length cap] 30)).alloc (.cells #[.int .i64 0,.slice none 0 0] 30):=⟨_,rfl⟩
 have g1:w.grownBy W1 none:=by rw [hW1];exact grown_trans (World.grownBy_alloc _ _ _) (World.grownBy_alloc _ _ _)
 have s1:W1.heap.size=w.heap.size+1+1:=by rw [hW1];simp only [World.size_alloc]
 have B1:Box 30 W1 w.heap.size (.int .i64 room) (.slice a KK.length cap):=by rw [hW1];exact (Box.new _ _ _ _).kept (World.grownBy_alloc _ _ none)
 have R1:Box 30 W1 (w.heap.size+1) (.int .i64 0) (.slice none 0 0):=by
  rw [hW1]
  have:=Box.new 30 (w.alloc (.cells #[.int .i64 room,.slice a KK.length cap] 30)) (.int .i64 0) (.slice none 0 0)
  rw [World.size_alloc] at this
  exact this
 have b1:=B1.c1
 rw [hW1] at b1
 have HV:=hide (hv.kept g1)
 have HG:=hide g1
 have HB:=hide B1
 have HR:=hide R1
 clear g1 B1 R1 hv
 go_enter Tryz.func32,Tryz.ntmps32
 go_wp2_with (first | (at_make;refine wpList_make_own _ rfl _ _ 28 rfl W1.heap.size 36 i0 (.agg #[.string ⟨#[]⟩,.bool false,.slice none 0 0,.int .i64 0]) 4 Tryz.underlying28 hi hz0 hz1 _ _ _ KK.length rfl rfl (by rfl) ?b1 ?b2 ?b3 ?_) | go_in)
 case b1=>rw [hz2];omega
 case b2=>unfold maxLen;omega
 case b3=>rw [hW1];exact Nat.le_refl _
 rw [←hW1]
 clear hW1 b1
 intro w2 hown hgrow
 have ST:Hid (OwnK (w.heap.size+1+1) w2.heap.size w2 (.slice (some ⟨w.heap.size+1+1,0,none⟩) 0 KK.length) (KK.take 0)):=⟨[],rfl,hown,fun k e=>(hown.lt k e).2,(fun p hp=>by cases hp),.nil⟩
 have GS:=hide hgrow
 have bb:=((unhide HB).kept hgrow).c1
 clear hown hgrow
 go_wp2_with fail
 clear bb
 go_loopw [3,13] (fun u i wr=>∃ j:Nat,j≤KK.length∧i=.int .i64 j∧Hid (OwnK (w.heap.size+1+1) wr.heap.size wr u (KK.take j))∧Hid (W1.grownBy wr none)) (fun _ i _=>KK.length - (intOf i).toNat)
 case atStart=>exact⟨0,Nat.zero_le _,rfl,ST,GS⟩
 case round =>
  obtain⟨j,hj,rfl,ho,hg⟩:=hrel
  clear ST GS
  obtain⟨xa,xc,hxv⟩:=(unhide ho).len
  have hjl:(KK.take j).length=j:=by rw [List.length_take];omega
  rw [hjl] at hxv
  have HJL:=hide hjl
  clear hjl
  subst hxv
  by_cases hlt:j<KK.length
  ·obtain⟨a',cap',e,hh⟩:=unhide HV
   simp only [Value.slice.injEq] at e
   obtain⟨rfl,_,rfl⟩:=e
   rcases hh with h | ⟨b,off,rfl,hb,hcb⟩
   ·rw [h] at hlt
    simp at hlt
   ·obtain⟨u,hu,hvl⟩:=hcb j hlt
    obtain⟨c0,c1,c2,c3,_⟩:=hu.kept (unhide hg)
    have HVL:=hide (hvl.kept (unhide hg))
    have HTK:=hide (take_snoc KK j hlt)
    have hL:=hin j
    have hi':(j:Int)<(KK.length:Int):=by omega
    generalize KK.getD j kz=x at *
    obtain⟨dg,sat,vals,cost⟩:=x
    dsimp only at *
    obtain⟨ua,uc,rfl,_⟩:=hvl.sl
    obtain⟨W4,hW4⟩:∃ W4,W4=wr.alloc (.cells #[.string dg,.bool sat,.slice ua vals.length uc,.int .i64 cost] 36):=⟨_,rfl⟩
    have g4:wr.grownBy W4 none:=by rw [hW4];exact World.grownBy_alloc _ _ _
    have B4:Box4 36 W4 wr.heap.size (.string dg) (.bool sat) (.slice ua vals.length uc) (.int .i64 cost):=by rw [hW4];exact Box4.new _ _ _ _ _ _
    have CC:=hide (copyKnown (.slice ua vals.length uc) ⟨dg,sat,vals,cost⟩ W4 hL ((unhide HVL).kept g4))
    dsimp only at CC
    have O4:=hide (((unhide ho).kept g4).sub (Nat.le_refl _) g4.size)
    have G4:=hide (grown_trans (r:=none) (unhide hg) g4)
    have y0:=B4.c0
    have y1:=B4.c1
    have y2:=B4.c2
    have y3:=B4.c3
    have hs4:w.heap.size+1+1≤W4.heap.size:=by have:=(unhide G4).size;omega
    clear hu hvl hcb B4 g4 ho hg
    go_upto_region 5 with fail
    rw [←hW4]
    clear hW4 c0 c1 c2 c3
    go_wp2_with fail
    refine (unhide CC).mono ?_;rintro e w5 ⟨v5,rfl,o5,g5⟩
    obtain⟨v5a,v5c,rfl,_⟩:=Sl.of_own o5
    have U5:=hide (Own.of o5)
    have O5:=hide ((unhide O4).kept g5)
    have G5:=hide (grown_trans (r:=none) (unhide G4) g5)
    have hs5:=g5.size
    clear o5 g5 CC O4 G4 y0 y1 y2 y3
    go_wp2_with (at_builtin;refine appK (k:=⟨dg,sat,vals,cost⟩) (unhide O5) (unhide U5) hs4 hs5 (by rw [unhide HJL];omega) rfl _ _ rfl rfl rfl ?_)
    intro g6 cap6 w6 o6 gg6
    rw [←unhide HTK] at o6
    have O6:=hide o6
    have G6:=hide (grown_app (lo:=0) (unhide G5) (by rw [s1];exact unhide O5) gg6)
    clear o6 gg6 O5 U5 G5
    go_wp2_with fail
    go_roundw
    case rel=>exact⟨j+1,by omega,by go_num,O6,G6⟩
    case measure=>simp [intOf];omega
  ·have hi':¬ (j:Int)<(KK.length:Int):=by omega
   have hjj:KK.take j=KK:=List.take_of_length_le (by omega)
   rw [hjj] at ho
   have R:=hide ((unhide HR).kept (unhide hg))
   have BX:=hide ((unhide HB).kept (unhide hg))
   have GG:=hide (grown_trans (r:=none) (unhide HG) (unhide hg))
   have hsz:=(unhide hg).size
   have x0:=(unhide BX).c0
   have r0:=(unhide R).c0
   have r1:=(unhide R).c1
   have rf0:=(unhide R).f 0
   have rf1:=(unhide R).f 1
   clear hjj HJL HV HB HR hg
   go_wp2_with fail
   (try simp only [Exit.inBlock,Exit.then])
   refine bodyPost_ret (ret_cache rfl rfl (((unhide R).set0 (.int .i64 room)).set1 (.slice xa j xc))) rfl ⟨_,rfl,?_,?_⟩
   ·rw [cf.size_set,cf.size_set]
    exact (ownK_set (ownK_set (unhide ho) (by omega)) (by omega)).sub (by omega) (Nat.le_refl _)
   ·exact cf.grown_set (cf.grown_set (unhide GG) (by omega)) (by omega)
end Go.Proofs.YtnlllcgcaddhmaaGreatDoor.ua
namespace Go.Proofs.YtnlllcgcaddhmaaGreatDoor.ua
open Go.ChangeShapes Go.WideShapes Go.ChangeAt Go.RowKit Go.Maps Go.MuLone
open sl (Sl Own ints marks hide unhide ret_int ret_bool grown_refl grown_trans grown_drewN below_of of_below)
open css (Outs outs_trans outs_none outs_by outs_refl own_mono own_sub own_outs own_kind)
open yb (Box4)
open cf (Box)
set_option linter.unusedVariables false
def filt (S:Nat→Bool)(E:List Kn):Nat→List Kn
 | 0=>[]
 | n+1=>filt S E n++(if S n then [E.getD n kz] else [])
theorem filt_len (S:Nat→Bool)(E:List Kn):∀ n,(filt S E n).length≤n
 | 0=>Nat.le_refl _
 | n+1=>by
  have:=filt_len S E n
  unfold filt
  rw [List.length_append]
  split <;> simp <;> omega
def OutE (wr:World)(s:Nat)(room:Int)(KK:List Kn)(e:Ending)(w':World):Prop:=∃ u,e=.returned (.agg #[.int .i64 room,u])∧OwnK wr.heap.size w'.heap.size w' u KK∧wr.grownBy w' (some s)
theorem new_some {a b d:World}{c r:Nat}(h:a.grownBy b (some c))(k:b.grownBy d (some r))(hr:a.heap.size≤r):a.grownBy d (some c) :=
 ⟨k.os.trans h.os,k.tape.trans h.tape,k.output.trans h.output,Nat.le_trans h.size k.size,fun i hi hn=>(k.block i (Nat.lt_of_lt_of_le hi h.size) (fun e=>by cases e;omega)).trans (h.block i hi hn)⟩
set_option maxRecDepth 10000 in
set_option maxHeartbeats 4000000 in
theorem cache (s bm:Nat)(room:Int)(v:Value)(E:List Kn)(D:DataW Unit)(w0 wq:World)(S:Nat→Bool)(h:Shf w0 wq s bm 0 room v E D)(hE:E.length≤1048577)(hd:∀ i,(E.getD i kz).dg.size≤maxLen)(hin:∀ i,(E.getD i kz).vals.length≤1048576)
  (hz:Maps.size D≤1048577) (hS:∀ i,i<E.length→∃ c b,Told D (E.getD i kz).dg c b∧S i=(b && (c == (i:Int)))) :
  Calls Tryz.prog 62 #[.pointer (some ⟨s,0,none⟩)] wq fun e w'=>OutE wq s room (filt S E E.length) e w':=by
 obtain⟨va,vc,rfl⟩:=h.own.len
 obtain⟨i0,hi,hz0,hz1,hz2⟩:=info_parts infoK
 obtain⟨W1,hW1⟩:∃ W1,W1=wq.alloc (.cells #[.int .i64 0,.slice none 0 0] 30):=⟨_,rfl⟩
 have g1:wq.grownBy W1 none:=by rw [hW1];exact World.grownBy_alloc _ _ _
 have s1:W1.heap.size=wq.heap.size+1:=by rw [hW1,World.size_alloc]
 have R1:Box 30 W1 wq.heap.size (.int .i64 0) (.slice none 0 0):=by rw [hW1];exact Box.new _ _ _ _
 have S1:=h.kept g1
 have C1:=hide (lock_free Tryz.muLib ⟨s,0,none⟩ W1 S1.cells.1 (S1.cells.2.2.2.2 0))
 have S2:=S1.lock 1
 have hsl:=h.lt
 have R2:=R1.setO (d:=s) (i:=0) (u:=.int .i32 1) (by omega)
 have g2:wq.grownBy (W1.setCell ⟨s,0,none⟩ (.int .i32 1)) (some s):=sl.grown_trans' (grown_trans (r:=some s) (grown_refl wq) g1) (sl.grown_setCell _ _ _ _)
 have s2:(W1.setCell ⟨s,0,none⟩ (.int .i32 1)).heap.size=wq.heap.size+1:=by rw [cf.size_set,s1]
 generalize W1.setCell ⟨s,0,none⟩ (.int .i32 1)=W2 at *
 have hlen:=S2.map.len Tryz.underlying117
 have HS:=hide hS
 have HD:=hide hd
 have SL:=hide S2
 have HR:=hide R2
 have HG:=hide g2
 have HZ:=hide hz
 have m4:=S2.cells.2.2.2.1
 have m3:=S2.cells.2.2.1
 obtain⟨sz,hsz⟩:∃ sz,sz=Maps.size D:=⟨_,rfl⟩
 rw [←hsz] at hlen HZ
 have hzz:sz≤1048577:=unhide HZ
 clear g1 R1 S1 S2 R2 g2 h hS hd hz hsz s1
 go_enter_defers Tryz.func62,Tryz.ntmps62
 go_wp2_with fail
 rw [←hW1]
 clear hW1
 refine (unhide C1).mono ?_;rintro e w' ⟨rfl,rfl⟩
 clear C1
 go_wp2_with (first | (at_make;refine wpList_make_own _ rfl _ _ 28 rfl w'.heap.size 36 i0 (.agg #[.string ⟨#[]⟩,.bool false,.slice none 0 0,.int .i64 0]) 4 Tryz.underlying28 hi hz0 hz1 _ _ _ sz rfl rfl (by rfl) ?b1 ?b2 ?b3 ?_))
 case b1=>rw [hz2];omega
 case b2=>unfold maxLen;omega
 case b3=>exact Nat.le_refl _
 intro w2 hown hgrow
 have ST:Hid (OwnK (wq.heap.size+1) w2.heap.size w2 (.slice (some ⟨wq.heap.size+1,0,none⟩) 0 sz) (filt S E 0)):=by
  exact⟨[],rfl,hown,fun k e=>(hown.lt k e).2,(fun p hp=>by cases hp),.nil⟩
 have GS:=hide hgrow
 have m3':=hgrow.cell m3 (fun e=>by cases e)
 clear hown hgrow m3 m4 hlen
 go_wp2_with fail
 clear m3'
 go_loopw [3,24] (fun u i wx=>∃ j:Nat,j≤E.length∧i=.int .i64 j∧Hid (OwnK (wq.heap.size+1) wx.heap.size wx u (filt S E j))∧Hid (w'.grownBy wx none)) (fun _ i _=>E.length - (intOf i).toNat)
 case atStart=>exact⟨0,Nat.zero_le _,rfl,ST,GS⟩
 case round =>
  obtain⟨j,hj,rfl,ho,hg⟩:=hrel
  clear ST GS
  obtain⟨xa,xc,hxv⟩:=(unhide ho).len
  have hfl:=filt_len S E j
  generalize hfn:(filt S E j).length=fn at hxv hfl
  have HFN:=hide hfn
  clear hfn
  subst hxv
  have SX:=hide ((unhide SL).kept (unhide hg))
  by_cases hlt:j<E.length
  ·obtain⟨g,cap,u,hvv,c0,c1,c2,c3,hvl⟩:=(unhide SX).own.at hlt
   simp only [Value.slice.injEq] at hvv
   obtain⟨rfl,_,rfl⟩:=hvv
   obtain⟨c,b,htd,hSj⟩:=unhide HS j hlt
   have HST:Hid (filt S E (j+1)=filt S E j++(if S j then [E.getD j kz] else [])):=rfl
   have hdd:=unhide HD j
   have hL:=hin j
   have hi':(j:Int)<(E.length:Int):=by omega
   have HVL:=hide hvl
   have CS:=hide (fun W (q:Shf w0 W s bm 1 room (.slice (some ⟨g,0,none⟩) E.length vc) E D)=>stands s bm j 1 room _ E D w0 W c b q hlt hE hdd htd)
   rw [←hSj] at CS
   generalize hx:E.getD j kz=x at *
   obtain⟨dg,sat,vals,cost⟩:=x
   dsimp only at *
   obtain⟨ua,uc,rfl,_⟩:=hvl.sl
   obtain⟨W4,hW4⟩:∃ W4,W4=wr.alloc (.cells #[.string dg,.bool sat,.slice ua vals.length uc,.int .i64 cost] 36):=⟨_,rfl⟩
   have g4:wr.grownBy W4 none:=by rw [hW4];exact World.grownBy_alloc _ _ _
   have B4:=hide (show Box4 36 W4 wr.heap.size (.string dg) (.bool sat) (.slice ua vals.length uc) (.int .i64 cost) by rw [hW4];exact Box4.new _ _ _ _ _ _)
   have S4:=hide ((unhide SX).kept g4)
   have O4:=hide (((unhide ho).kept g4).sub (Nat.le_refl _) g4.size)
   have G4:=hide (grown_trans (r:=none) (unhide hg) g4)
   have CS4:=hide (unhide CS W4 (unhide S4))
   clear hvl htd hSj hx g4 ho hg CS SX hdd
   go_upto_region 7 with fail
   rw [←hW4]
   clear hW4 c0 c1 c2 c3
   generalize wr.heap.size=kb at *
   go_wp2_with fail
   refine (unhide CS4).mono ?_;rintro e w5 ⟨rfl,g5⟩
   have B5:=hide ((unhide B4).kept g5)
   have O5:=hide (((unhide O4).kept g5).sub (Nat.le_refl _) g5.size)
   have G5:=hide (grown_trans (r:=none) (unhide G4) g5)
   have hs5:wq.heap.size+1≤w5.heap.size:=by have:=(unhide G5).size;omega
   clear g5 CS4 B4 O4 G4 S4
   cases hq:S j
   ·have HQ:Hid (filt S E (j+1)=filt S E j):=by show _=_;rw [unhide HST,hq];simp
    go_wp2_with fail
    go_roundw
    case rel=>exact⟨j+1,by omega,by go_num,by rw [unhide HQ];exact unhide O5,G5⟩
    case measure=>simp [intOf];omega
   ·have HQ:Hid (filt S E (j+1)=filt S E j++[⟨dg,sat,vals,cost⟩]):=by show _=_;rw [unhide HST,hq];simp
    have CC:=hide (copyKnown (.slice ua vals.length uc) ⟨dg,sat,vals,cost⟩ w5 hL ((unhide HVL).kept (grown_trans (r:=none) (unhide SL).g (unhide G5))))
    dsimp only at CC
    have y0:=(unhide B5).c0
    have y1:=(unhide B5).c1
    have y2:=(unhide B5).c2
    have y3:=(unhide B5).c3
    go_wp2_with fail
    refine (unhide CC).mono ?_;rintro e w6 ⟨v6,rfl,o6,g6⟩
    obtain⟨v6a,v6c,rfl,_⟩:=Sl.of_own o6
    have U6:=hide (Own.of o6)
    have O6:=hide ((unhide O5).kept g6)
    have G6:=hide (grown_trans (r:=none) (unhide G5) g6)
    have hs6:=g6.size
    clear o6 g6 CC O5 G5 y0 y1 y2 y3 B5
    go_wp2_with (at_builtin;refine appK (k:=⟨dg,sat,vals,cost⟩) (unhide O6) (unhide U6) hs5 hs6 (by rw [unhide HFN];omega) rfl _ _ rfl rfl rfl ?_)
    intro g7 cap7 w7 o7 gg7
    rw [←unhide HQ] at o7
    have O7:=hide o7
    have G7:=hide (grown_app (lo:=0) (unhide G6) (by rw [s2];exact unhide O6) gg7)
    clear o7 gg7 O6 U6 G6
    go_wp2_with fail
    go_roundw
    case rel=>exact⟨j+1,by omega,by go_num,O7,G7⟩
    case measure=>simp [intOf];omega
  ·have hi':¬ (j:Int)<(E.length:Int):=by omega
   have hjj:j=E.length:=by omega
   have R:=hide ((unhide HR).kept (unhide hg))
   have GG:Hid (wq.grownBy wr (some s)):=sl.grown_trans' (unhide HG) (grown_trans (r:=some s) (grown_refl _) (unhide hg))
   have hsz:wq.heap.size+1≤wr.heap.size:=by have:=(unhide hg).size;omega
   have n1:¬ wq.heap.size=s:=by omega
   have n2:¬ s=wq.heap.size:=by omega
   have k2:=(unhide SX).cells.2.1
   have r0:=(unhide R).c0
   have r1:=(unhide R).c1
   have rf0:=(unhide R).f 0
   have rf1:=(unhide R).f 1
   clear HS HD HZ SL HR HG hg
   go_wp2_with fail
   go_region
   obtain⟨W9,hW9⟩:∃ W9,W9=((((wr.setCell ⟨wq.heap.size,0,none⟩ (.int .i64 0)).setCell ⟨wq.heap.size,1,none⟩ (.slice none 0 0)).setCell ⟨wq.heap.size,0,none⟩ (.int .i64 room)).setCell ⟨wq.heap.size,1,none⟩ (.slice xa fn xc)).drew:=⟨_,rfl⟩
   have gw:wr.grownBy W9 (some wq.heap.size):=by
    rw [hW9]
    exact sl.grown_trans' (sl.grown_trans' (sl.grown_trans' (sl.grown_trans' (sl.grown_setCell _ _ _ _) (sl.grown_setCell _ _ _ _)) (sl.grown_setCell _ _ _ _)) (sl.grown_setCell _ _ _ _)) (cf.grown_drew _ _)
   have RB:Hid (Box 30 W9 wq.heap.size (.int .i64 room) (.slice xa fn xc)):=by
    rw [hW9]
    exact (((((unhide R).set0 (.int .i64 0)).set1 (.slice none 0 0)).set0 (.int .i64 room)).set1 (.slice xa fn xc)).kept (cf.grown_drew _ none)
   have O9:Hid (OwnK (wq.heap.size+1) wr.heap.size W9 (.slice xa fn xc) (filt S E E.length)):=by
    have q:=unhide ho
    rw [hjj] at q
    exact q.outs (outs_by (lo:=wq.heap.size) (hi:=wq.heap.size+1) gw (fun k e=>by cases e;omega)) (.inr (Nat.le_refl _))
   have G9:=hide (new_some (unhide GG) gw (Nat.le_refl _))
   have l0:=gw.cell (unhide SX).cells.1 (fun e=>by cases e;exact n1 rfl)
   have lf:W9.frozen? ⟨s,0,none⟩=false:=by
    have hb:=(gw.block s (unhide SX).lt (fun e=>by cases e;exact n1 rfl)).trans (unhide SX).blk
    simp [World.frozen?,hb]
   have hs9:=gw.size
   rw [←hW9]
   clear hW9 gw SX R GG ho k2 r0 r1 rf0 rf1 hjj
   go_wp2_with fail
   refine leaves_cons (f:=100) (args:=#[.pointer (some ⟨s,0,none⟩)]) (by simp) (by simp [go_sem]) ?_
   refine (unlock_deferred Tryz.muLib ⟨s,0,none⟩ .returning _ l0 lf).mono ?_
   rintro e u' w'' ⟨rfl,rfl,rfl⟩
   simp [Leaves,settle]
   refine⟨_,ret_cache rfl rfl ((unhide RB).setO (d:=s) (i:=0) (u:=.int .i32 0) n2),?_⟩
   refine⟨_,rfl,?_,sl.grown_trans' (unhide G9) (sl.grown_setCell _ _ _ _)⟩
   rw [cf.size_set]
   exact (ownK_set (unhide O9) (by omega)).sub (by omega) hs9
end Go.Proofs.YtnlllcgcaddhmaaGreatDoor.ua
namespace Go.Proofs.YtnlllcgcaddhmaaGreatDoor.ua
open Go.ChangeShapes Go.WideShapes Go.ChangeAt Go.RowKit Go.Maps Go.MuLone
open sl (Sl Own ints marks hide unhide ret_int ret_bool grown_refl grown_trans grown_drewN below_of of_below)
open css (Outs outs_trans outs_none outs_by outs_refl own_mono own_sub own_outs own_kind)
open yb (Box4)
open cf (Box)
set_option linter.unusedVariables false
theorem Shf.by {w0 wr w1:World}{s bm r:Nat}{lk room:Int}{v:Value}{E:List Kn}{D:DataW Unit}(h:Shf w0 wr s bm lk room v E D)(g:wr.grownBy w1 (some r))(hr:w0.heap.size≤r)(h1:r≠s)(h2:r≠bm)(h3:v.ownBlock≠some r):Shf w0 w1 s bm lk room v E D :=
 ⟨grown_in h.g g hr,(g.block s h.lt (fun e=>by cases e;exact h1 rfl)).trans h.blk,h.own.kept g (fun k e=>by cases e;exact h3),h.map.kept g (by intro e;cases e;exact h2 rfl),h.hs,h.hb⟩
theorem Shf.far {w0 wr:World}{s bm:Nat}{lk room:Int}{v:Value}{E:List Kn}{D:DataW Unit}(h:Shf w0 wr s bm lk room v E D){r:Nat}(hr:wr.heap.size≤r):r≠s∧r≠bm∧v.ownBlock≠some r:=by
 have a:=h.lt
 have b:=h.map.lt
 refine⟨by omega,by omega,fun e=>?_⟩
 obtain⟨D',_,hw,_⟩:=h.own
 have:=(hw.lt r e).2
 omega
def NoneE (w0:World)(s bm:Nat)(room:Int)(v:Value)(E:List Kn)(D:DataW Unit)(e:Ending)(w':World):Prop:=e=.returned (.tuple #[.agg #[.string ⟨#[]⟩,.bool false,.slice none 0 0,.int .i64 0],.bool false])∧Shf w0 w' s bm 0 room v E D
def FoundE (w0:World)(s bm:Nat)(room:Int)(E:List Kn)(D:DataW Unit)(k:Kn)(e:Ending)(w':World):Prop:=∃ u v lo,e=.returned (.tuple #[.agg #[.string k.dg,.bool k.sat,u,.int .i64 k.cost],.bool true])∧Shf w0 w' s bm 0 room v (E++[k]) (D.put (key k.dg) (num E.length))∧w'.ownsRow lo 3 1 u k.vals.length (ints k.vals)∧s<lo∧w0.heap.size≤lo
set_option maxRecDepth 10000 in
set_option maxHeartbeats 4000000 in
theorem findNo (s bm:Nat)(room:Int)(v:Value)(E:List Kn)(D:DataW Unit)(w0 wq:World)(d:ByteArray)(c:Int)(h:Shf w0 wq s bm 0 room v E D)(hd:d.size≤maxLen)(ht:Told D d c false) :
  Calls Tryz.prog 61 #[.pointer (some ⟨s,0,none⟩),.string d] wq fun e w'=>NoneE w0 s bm room v E D e w':=by
 obtain⟨W1,hW1⟩:∃ W1,W1=wq.alloc (.cells #[.string ⟨#[]⟩,.bool false,.slice none 0 0,.int .i64 0] 36):=⟨_,rfl⟩
 have g1:wq.grownBy W1 none:=by rw [hW1];exact World.grownBy_alloc _ _ _
 have R1:Box4 36 W1 wq.heap.size (.string ⟨#[]⟩) (.bool false) (.slice none 0 0) (.int .i64 0):=by rw [hW1];exact Box4.new _ _ _ _ _ _
 have S1:=h.kept g1
 have C1:=hide (lock_free Tryz.muLib ⟨s,0,none⟩ W1 S1.cells.1 (S1.cells.2.2.2.2 0))
 have S2:=S1.lock 1
 have hsl:=h.lt
 have hne:¬ wq.heap.size=s:=by omega
 have HF:=hide (h.far (Nat.le_refl _))
 have hw0:=h.g.size
 have hne':¬ s=wq.heap.size:=by omega
 have R2:=R1.setO (d:=s) (i:=0) (u:=.int .i32 1) hne'
 generalize W1.setCell ⟨s,0,none⟩ (.int .i32 1)=W2 at *
 obtain⟨c',b',hlk,ht'⟩:=look S2.map hd
 obtain⟨rfl,rfl⟩:=ht.one ht'
 have SL:=hide S2
 have HR:=hide R2
 have m4:=S2.cells.2.2.2.1
 have r0:=R2.c0
 have r1:=R2.c1
 have r2:=R2.c2
 have r3:=R2.c3
 have rf0:=R2.f 0
 have rf1:=R2.f 1
 have rf2:=R2.f 2
 have rf3:=R2.f 3
 clear g1 R1 S1 S2 R2 h ht ht'
 go_enter_defers Tryz.func61,Tryz.ntmps61
 go_wp2_with fail
 rw [←hW1]
 clear hW1
 refine (unhide C1).mono ?_;rintro e w' ⟨rfl,rfl⟩
 clear C1
 go_wp2_with fail
 obtain⟨W9,hW9⟩:∃ W9,W9=(((w'.setCell ⟨wq.heap.size,0,none⟩ (.string ⟨#[]⟩)).setCell ⟨wq.heap.size,1,none⟩ (.bool false)).setCell ⟨wq.heap.size,2,none⟩ (.slice none 0 0)).setCell ⟨wq.heap.size,3,none⟩ (.int .i64 0):=⟨_,rfl⟩
 have gw:w'.grownBy W9 (some wq.heap.size):=by
  rw [hW9]
  exact sl.grown_trans' (sl.grown_trans' (sl.grown_trans' (sl.grown_setCell _ _ _ _) (sl.grown_setCell _ _ _ _)) (sl.grown_setCell _ _ _ _)) (sl.grown_setCell _ _ _ _)
 have RB:Box4 36 W9 wq.heap.size (.string ⟨#[]⟩) (.bool false) (.slice none 0 0) (.int .i64 0):=by rw [hW9];exact (unhide HR).setA _ _ _ _
 have S9:=(unhide SL).by gw hw0 (unhide HF).1 (unhide HF).2.1 (unhide HF).2.2
 rw [←hW9]
 refine leaves_cons (f:=100) (args:=#[.pointer (some ⟨s,0,none⟩)]) (by simp) (by simp [go_sem]) ?_
 refine (unlock_deferred Tryz.muLib ⟨s,0,none⟩ .returning _ S9.cells.1 (S9.cells.2.2.2.2 0)).mono ?_
 rintro e u' w'' ⟨rfl,rfl,rfl⟩
 simp [Leaves,settle]
 refine⟨_,ret_known2 rfl rfl (RB.setO (d:=s) (i:=0) (u:=.int .i32 0) hne'),?_⟩
 exact⟨rfl,S9.lock 0⟩
set_option maxRecDepth 10000 in
set_option maxHeartbeats 4000000 in
theorem findYes (s bm j:Nat)(room:Int)(v:Value)(E:List Kn)(D:DataW Unit)(w0 wq:World)(d:ByteArray)(h:Shf w0 wq s bm 0 room v E D)(hd:d.size≤maxLen)(hE:E.length≤1048576)(hj:j<E.length)(hdj:(E.getD j kz).dg.size≤maxLen)(hL:(E.getD j kz).vals.length≤1048576)(ht:Told D d (j:Int) true) :
  Calls Tryz.prog 61 #[.pointer (some ⟨s,0,none⟩),.string d] wq fun e w'=>FoundE w0 s bm room E D (E.getD j kz) e w':=by
 obtain⟨W1,hW1⟩:∃ W1,W1=wq.alloc (.cells #[.string ⟨#[]⟩,.bool false,.slice none 0 0,.int .i64 0] 36):=⟨_,rfl⟩
 have g1:wq.grownBy W1 none:=by rw [hW1];exact World.grownBy_alloc _ _ _
 have s1:W1.heap.size=wq.heap.size+1:=by rw [hW1,World.size_alloc]
 have R1:Box4 36 W1 wq.heap.size (.string ⟨#[]⟩) (.bool false) (.slice none 0 0) (.int .i64 0):=by rw [hW1];exact Box4.new _ _ _ _ _ _
 have S1:=h.kept g1
 have C1:=hide (lock_free Tryz.muLib ⟨s,0,none⟩ W1 S1.cells.1 (S1.cells.2.2.2.2 0))
 have S2:=S1.lock 1
 have hsl:=h.lt
 have HF:=hide (h.far (Nat.le_refl _))
 have HF1:=hide (h.far (Nat.le_succ _))
 have hw0:=h.g.size
 have hne':¬ s=wq.heap.size:=by omega
 have R2:=R1.setO (d:=s) (i:=0) (u:=.int .i32 1) hne'
 have s2:(W1.setCell ⟨s,0,none⟩ (.int .i32 1)).heap.size=wq.heap.size+1:=by rw [cf.size_set,s1]
 generalize W1.setCell ⟨s,0,none⟩ (.int .i32 1)=W2 at *
 obtain⟨c',b',hlk,ht'⟩:=look S2.map hd
 obtain⟨rfl,rfl⟩:=ht.one ht'
 obtain⟨g,cap,u,rfl,c0,c1,c2,c3,hvl⟩:=S2.own.at hj
 have SL:=hide S2
 have HR:=hide R2
 have m4:=S2.cells.2.2.2.1
 have m3:=S2.cells.2.2.1
 have hi':(j:Int)<(E.length:Int):=by omega
 generalize E.getD j kz=x at *
 obtain⟨dg,sat,vals,cost⟩:=x
 dsimp only at *
 obtain⟨ua,uc,rfl,_⟩:=hvl.sl
 obtain⟨W3,hW3⟩:∃ W3,W3=W2.alloc (.cells #[.string dg,.bool sat,.slice ua vals.length uc,.int .i64 cost] 36):=⟨_,rfl⟩
 have g3:W2.grownBy W3 none:=by rw [hW3];exact World.grownBy_alloc _ _ _
 have B3:Box4 36 W3 (wq.heap.size+1) (.string dg) (.bool sat) (.slice ua vals.length uc) (.int .i64 cost):=by
  rw [hW3]
  have:=Box4.new 36 W2 (.string dg) (.bool sat) (.slice ua vals.length uc) (.int .i64 cost)
  rw [s2] at this
  exact this
 have CU:=hide (use_ (.slice ua vals.length uc) ⟨dg,sat,vals,cost⟩ s bm room _ E D w0 W3 (S2.kept g3) hE hdj hvl)
 dsimp only at CU
 have HB:=hide B3
 have HV:=hide hvl
 have R3:=hide (R2.kept g3)
 clear g1 R1 S1 S2 R2 h ht ht' hvl s1
 go_enter_defers Tryz.func61,Tryz.ntmps61
 go_wp2_with fail
 rw [←hW1]
 clear hW1
 refine (unhide C1).mono ?_;rintro e w' ⟨rfl,rfl⟩
 clear C1
 go_upto_region 7 with fail
 rw [←hW3]
 clear m3 m4 hlk c0 c1 c2 c3
 have s3:W3.heap.size=wq.heap.size+1+1:=by rw [hW3,World.size_alloc,s2]
 clear hW3
 have y0:=(unhide HB).c0
 have y1:=(unhide HB).c1
 have y2:=(unhide HB).c2
 have y3:=(unhide HB).c3
 go_wp2_with fail
 refine (unhide CU).mono ?_;rintro e w4 ⟨rfl,v4,S4,fr4,lc4⟩
 clear y0 y1 y2 y3 CU
 have B4:Hid (Box4 36 w4 (wq.heap.size+1) (.string dg) (.bool sat) (.slice ua vals.length uc) (.int .i64 cost)):=(fr4 _ (by omega) (unhide HF1).1 (unhide HF1).2.1 (unhide HF1).2.2).trans (unhide HB)
 have R4:Hid (Box4 36 w4 wq.heap.size (.string ⟨#[]⟩) (.bool false) (.slice none 0 0) (.int .i64 0)):=(fr4 _ (by omega) (unhide HF).1 (unhide HF).2.1 (unhide HF).2.2).trans (unhide R3)
 have CC:=hide (copyKnown (.slice ua vals.length uc) ⟨dg,sat,vals,cost⟩ w4 hL ((unhide HV).kept S4.g))
 dsimp only at CC
 have S4':=hide S4
 have l4:=S4.lt
 have r4:=(unhide R4).lt
 have N4:Hid (v4.ownBlock≠some wq.heap.size):=fun e=>by
  rcases lc4 _ e with q | q
  ·exact (unhide HF).2.2 q
  ·omega
 have y0:=(unhide B4).c0
 have y1:=(unhide B4).c1
 have y2:=(unhide B4).c2
 have y3:=(unhide B4).c3
 clear fr4 lc4 S4 HB R3 HV SL
 go_wp2_with fail
 refine (unhide CC).mono ?_;rintro e w5 ⟨v5,rfl,o5,g5⟩
 obtain⟨v5a,v5c,rfl,_⟩:=Sl.of_own o5
 have R5:=hide ((unhide R4).kept g5)
 have S5:=hide ((unhide S4').kept g5)
 have O5:=hide o5
 have r0:=(unhide R5).c0
 have r1:=(unhide R5).c1
 have r2:=(unhide R5).c2
 have r3:=(unhide R5).c3
 have rf0:=(unhide R5).f 0
 have rf1:=(unhide R5).f 1
 have rf2:=(unhide R5).f 2
 have rf3:=(unhide R5).f 3
 clear y0 y1 y2 y3 CC o5 g5 B4 R4 S4'
 go_wp2_with fail
 obtain⟨W9,hW9⟩:∃ W9,W9=(((w5.setCell ⟨wq.heap.size,0,none⟩ (.string dg)).setCell ⟨wq.heap.size,1,none⟩ (.bool sat)).setCell ⟨wq.heap.size,2,none⟩ (.slice v5a vals.length v5c)).setCell ⟨wq.heap.size,3,none⟩ (.int .i64 cost):=⟨_,rfl⟩
 have gw:w5.grownBy W9 (some wq.heap.size):=by
  rw [hW9]
  exact sl.grown_trans' (sl.grown_trans' (sl.grown_trans' (sl.grown_setCell _ _ _ _) (sl.grown_setCell _ _ _ _)) (sl.grown_setCell _ _ _ _)) (sl.grown_setCell _ _ _ _)
 have RB:Box4 36 W9 wq.heap.size (.string dg) (.bool sat) (.slice v5a vals.length v5c) (.int .i64 cost):=by rw [hW9];exact (unhide R5).setA _ _ _ _
 have S9:=(unhide S5).by gw hw0 (unhide HF).1 (unhide HF).2.1 (unhide N4)
 have O9:W9.ownsRow w4.heap.size 3 1 (.slice v5a vals.length v5c) vals.length (ints vals):=by rw [hW9];exact row_set (row_set (row_set (row_set (unhide O5) r4) r4) r4) r4
 rw [←hW9]
 refine leaves_cons (f:=100) (args:=#[.pointer (some ⟨s,0,none⟩)]) (by simp) (by simp [go_sem]) ?_
 refine (unlock_deferred Tryz.muLib ⟨s,0,none⟩ .returning _ S9.cells.1 (S9.cells.2.2.2.2 0)).mono ?_
 rintro e u' w'' ⟨rfl,rfl,rfl⟩
 simp [Leaves,settle]
 refine⟨_,ret_known2 rfl rfl (RB.setO (d:=s) (i:=0) (u:=.int .i32 0) hne'),?_⟩
 exact⟨_,v4,w4.heap.size,rfl,S9.lock 0,row_set O9 l4,l4,by omega⟩
end Go.Proofs.YtnlllcgcaddhmaaGreatDoor.ua
namespace Go.Proofs.YtnlllcgcaddhmaaGreatDoor.ua
open Go.ChangeShapes Go.WideShapes Go.ChangeAt Go.RowKit Go.Maps Go.MuLone
open sl (Sl Own ints marks hide unhide ret_int ret_bool grown_refl grown_trans grown_drewN below_of of_below)
open css (Outs outs_trans outs_none outs_by outs_refl own_mono own_sub own_outs own_kind)
open yb (Box4)
open cf (Box)
set_option linter.unusedVariables false
set_option maxRecDepth 10000 in
set_option maxHeartbeats 4000000 in
theorem putA (s bm:Nat)(room:Int)(v:Value)(E:List Kn)(D:DataW Unit)(w0 wq:World)(u:Value)(k:Kn)(h:Shf w0 wq s bm 0 room v E D)(hE:E.length≤1048576)(hd:k.dg.size≤maxLen)(hu:Vl w0 u k.vals)(hz:((Maps.size (D.put (key k.dg) (num E.length)):Nat):Int)≤room) :
  Calls Tryz.prog 67 #[.pointer (some ⟨s,0,none⟩),.agg #[.string k.dg,.bool k.sat,u,.int .i64 k.cost]] wq fun e w'=>e=.returned (.tuple #[])∧∃ v',Shf w0 w' s bm 0 room v' (E++[k]) (D.put (key k.dg) (num E.length)):=by
 obtain⟨ua,uc,rfl,_⟩:=hu.sl
 obtain⟨dg,sat,vals,cost⟩:=k
 dsimp only at *
 obtain⟨W1,hW1⟩:∃ W1,W1=wq.alloc (.cells #[.string dg,.bool sat,.slice ua vals.length uc,.int .i64 cost] 36):=⟨_,rfl⟩
 have g1:wq.grownBy W1 none:=by rw [hW1];exact World.grownBy_alloc _ _ _
 have B1:Box4 36 W1 wq.heap.size (.string dg) (.bool sat) (.slice ua vals.length uc) (.int .i64 cost):=by rw [hW1];exact Box4.new _ _ _ _ _ _
 have S1:=h.kept g1
 have C1:=hide (lock_free Tryz.muLib ⟨s,0,none⟩ W1 S1.cells.1 (S1.cells.2.2.2.2 0))
 have S2:=S1.lock 1
 have hsl:=h.lt
 have hne':¬ s=wq.heap.size:=by omega
 have B2:=B1.setO (d:=s) (i:=0) (u:=.int .i32 1) hne'
 generalize W1.setCell ⟨s,0,none⟩ (.int .i32 1)=W2 at *
 have CU:=hide (use_ (.slice ua vals.length uc) ⟨dg,sat,vals,cost⟩ s bm room _ E D w0 W2 S2 hE hd hu)
 dsimp only at CU
 have y0:=B2.c0
 have y1:=B2.c1
 have y2:=B2.c2
 have y3:=B2.c3
 generalize D.put (key dg) (num E.length)=D' at *
 obtain⟨sz,hsz⟩:∃ sz,sz=Maps.size D':=⟨_,rfl⟩
 rw [←hsz] at hz
 have HZ:=hide hsz
 clear g1 B1 S1 S2 B2 h hu hsz
 go_enter_defers Tryz.func67,Tryz.ntmps67
 go_wp2_with fail
 rw [←hW1]
 clear hW1
 refine (unhide C1).mono ?_;rintro e w' ⟨rfl,rfl⟩
 clear C1
 go_wp2_with fail
 refine (unhide CU).mono ?_;rintro e w4 ⟨rfl,v4,S4,_,_⟩
 clear CU y0 y1 y2 y3
 have S5:=S4.kept (cf.grown_drew w4 none)
 have hl:=S5.map.len Tryz.underlying117
 rw [←unhide HZ] at hl
 have m4:=S4.cells.2.2.2.1
 have m2:=S4.cells.2.1
 have hq:¬ room<(sz:Int):=by omega
 have SL:=hide S5
 clear S4 S5
 go_wp2_with fail
 refine wp_loop_rounds 1 ?_
 rw [rounds_succ]
 go_wp2_with fail
 go_region
 go_wp2_with fail
 refine leaves_cons (f:=100) (args:=#[.pointer (some ⟨s,0,none⟩)]) (by simp) (by simp [go_sem]) ?_
 refine (unlock_deferred Tryz.muLib ⟨s,0,none⟩ .returning _ (unhide SL).cells.1 ((unhide SL).cells.2.2.2.2 0)).mono ?_
 rintro e u' w'' ⟨rfl,rfl,rfl⟩
 simp [Leaves,settle]
 refine⟨_,results_none rfl _ _ _,?_⟩
 exact⟨rfl,v4,(unhide SL).lock 0⟩
set_option maxRecDepth 10000 in
set_option maxHeartbeats 4000000 in
theorem putB (s bm:Nat)(room:Int)(v:Value)(E:List Kn)(D:DataW Unit)(w0 wq:World)(u:Value)(k:Kn)(d:ByteArray)(h:Shf w0 wq s bm 0 room v E D)(hE:E.length≤1048576)(hd:k.dg.size≤maxLen)(hu:Vl w0 u k.vals)(hz:room<((Maps.size (D.put (key k.dg) (num E.length)):Nat):Int))
  (h0:((E++[k]).getD 0 kz).dg=d) (hd0:d.size≤maxLen) (ht:Told (D.put (key k.dg) (num E.length)) d 0 true) (hz2:((Maps.size ((D.put (key k.dg) (num E.length)).del (key d)):Nat):Int)≤room) :
  Calls Tryz.prog 67 #[.pointer (some ⟨s,0,none⟩),.agg #[.string k.dg,.bool k.sat,u,.int .i64 k.cost]] wq fun e w'=>e=.returned (.tuple #[])∧∃ v',Shf w0 w' s bm 0 room v' (E++[k]) ((D.put (key k.dg) (num E.length)).del (key d)):=by
 obtain⟨ua,uc,rfl,_⟩:=hu.sl
 obtain⟨dg,sat,vals,cost⟩:=k
 dsimp only at *
 obtain⟨W1,hW1⟩:∃ W1,W1=wq.alloc (.cells #[.string dg,.bool sat,.slice ua vals.length uc,.int .i64 cost] 36):=⟨_,rfl⟩
 have g1:wq.grownBy W1 none:=by rw [hW1];exact World.grownBy_alloc _ _ _
 have B1:Box4 36 W1 wq.heap.size (.string dg) (.bool sat) (.slice ua vals.length uc) (.int .i64 cost):=by rw [hW1];exact Box4.new _ _ _ _ _ _
 have S1:=h.kept g1
 have C1:=hide (lock_free Tryz.muLib ⟨s,0,none⟩ W1 S1.cells.1 (S1.cells.2.2.2.2 0))
 have S2:=S1.lock 1
 have hsl:=h.lt
 have hne':¬ s=wq.heap.size:=by omega
 have B2:=B1.setO (d:=s) (i:=0) (u:=.int .i32 1) hne'
 generalize W1.setCell ⟨s,0,none⟩ (.int .i32 1)=W2 at *
 have CU:=hide (use_ (.slice ua vals.length uc) ⟨dg,sat,vals,cost⟩ s bm room _ E D w0 W2 S2 hE hd hu)
 dsimp only at CU
 have y0:=B2.c0
 have y1:=B2.c1
 have y2:=B2.c2
 have y3:=B2.c3
 have hEl:(E++[(⟨dg,sat,vals,cost⟩:Kn)]).length=E.length+1:=by rw [List.length_append];rfl
 have HEL:=hide hEl
 generalize D.put (key dg) (num E.length)=D' at *
 generalize E++[(⟨dg,sat,vals,cost⟩:Kn)]=E' at *
 obtain⟨sz,hsz⟩:∃ sz,sz=Maps.size D':=⟨_,rfl⟩
 obtain⟨sz2,hsz2⟩:∃ sz,sz=Maps.size (D'.del (key d)):=⟨_,rfl⟩
 rw [←hsz] at hz
 rw [←hsz2] at hz2
 have HZ:=hide hsz
 have HZ2:=hide hsz2
 have H0:=hide h0
 have HT:=hide ht
 clear g1 B1 S1 S2 B2 h hu hsz hsz2 hEl h0 ht
 go_enter_defers Tryz.func67,Tryz.ntmps67
 go_wp2_with fail
 rw [←hW1]
 clear hW1
 refine (unhide C1).mono ?_;rintro e w' ⟨rfl,rfl⟩
 clear C1
 go_wp2_with fail
 refine (unhide CU).mono ?_;rintro e w4 ⟨rfl,v4,S4,_,_⟩
 clear CU y0 y1 y2 y3
 have S5:=S4.kept (cf.grown_drew w4 none)
 have hl:=S5.map.len Tryz.underlying117
 rw [←unhide HZ] at hl
 have m4:=S4.cells.2.2.2.1
 have m2:=S4.cells.2.1
 have hq:room<(sz:Int):=by omega
 have CS:=hide (stands s bm 0 1 room v4 E' D' w0 w4.drew 0 true S5 (by rw [unhide HEL];omega) (by rw [unhide HEL];omega) (by rw [unhide H0];exact hd0) (by rw [unhide H0];exact unhide HT))
 have SL:=hide S5
 clear S4 S5
 go_wp2_with fail
 refine wp_loop_rounds 2 ?_
 rw [rounds_succ]
 go_wp2_with fail
 go_region
 go_wp2_with fail
 refine (unhide CS).mono ?_;rintro e w6 ⟨rfl,g6⟩
 have S6:=(unhide SL).kept g6
 have S6d:=S6.kept (cf.grown_drew w6 none)
 obtain⟨g,cap,u0,hv4,c0,_⟩:=S6.own.at (i:=0) (by rw [unhide HEL];omega)
 subst hv4
 rw [unhide H0,Nat.zero_mul] at c0
 obtain⟨w7,hdel,hm7,ht7⟩:=S6d.map.drop law Tryz.underlying117 (keyOf_dg hd0) 0
 have S7:=S6d.turn ht7.grown hm7 (Nat.le_refl _)
 have S8:=S7.kept (cf.grown_drew w7 none)
 have hl2:=S8.map.len Tryz.underlying117
 rw [←unhide HZ2] at hl2
 have n3:=S6.cells.2.2.1
 have n4:=S6.cells.2.2.2.1
 have q2:=S7.cells.2.1
 have q4:=S7.cells.2.2.2.1
 have hq2:¬ room<(sz2:Int):=by omega
 have q3:=S7.cells.2.2.1
 have rn:=S6.row_ne.2
 have c7:w7.cell? ⟨g,0,none⟩=some (.string d):=ht7.grown.cell (a:=⟨g,0,none⟩) c0 (fun e=>rn (by simpa [Value.ownBlock] using e))
 clear rn
 have h0l:(0:Int)<(E'.length:Int):=by rw [unhide HEL];omega
 have h0n:0<E'.length:=by rw [unhide HEL];omega
 have h0e:¬ E'=[]:=fun e=>by rw [e] at h0n;exact absurd h0n (by decide)
 have SZ:=hide S8
 have hb0:((0:Int) == ((0:Nat):Int))=true:=by decide
 clear S6 S6d S7 S8 hm7 ht7 SL CS g6 m4 m2 hl hz hz2 hq hne' hsl
 go_wp2_with fail
 go_region_held3 (fun w'=>w'.cell? ⟨s,4,none⟩=some (.map (some bm))∧w'.cell? ⟨s,3,none⟩=some (.slice (some ⟨g,0,none⟩) E'.length cap)∧w'.cell? ⟨g,0,none⟩=some (.string d)) (first | assumption | go_keep) (fail)
 go_wp2_with fail
 clear hdel c0 c7 n3 n4 q3
 rw [rounds_succ]
 go_wp2_with fail
 go_region
 go_wp2_with fail
 refine leaves_cons (f:=100) (args:=#[.pointer (some ⟨s,0,none⟩)]) (by simp) (by simp [go_sem]) ?_
 refine (unlock_deferred Tryz.muLib ⟨s,0,none⟩ .returning _ (unhide SZ).cells.1 ((unhide SZ).cells.2.2.2.2 0)).mono ?_
 rintro e u' w'' ⟨rfl,rfl,rfl⟩
 simp [Leaves,settle]
 refine⟨_,results_none rfl _ _ _,?_⟩
 exact⟨rfl,_,(unhide SZ).lock 0⟩
end Go.Proofs.YtnlllcgcaddhmaaGreatDoor.ua
namespace Go.Proofs.YtnlllcgcaddhmaaGreatDoor.ua
open Go.ChangeShapes Go.WideShapes Go.ChangeAt Go.RowKit Go.Maps Go.MuLone
open sl (Sl Own ints marks hide unhide ret_int ret_bool grown_refl grown_trans grown_drewN below_of of_below)
open css (Outs outs_trans outs_none outs_by outs_refl own_mono own_sub own_outs own_kind)
open yb (Box4)
open cf (Box)
set_option linter.unusedVariables false
def ShelfE (w0:World)(room:Int)(KK:List Kn)(e:Ending)(w':World):Prop:=∃ s bm room' v E D,e=.returned (.tuple #[.pointer (some ⟨s,0,none⟩),.bool (okC room KK)])∧Shf w0 w' s bm 0 room' v E D∧(okC room KK=true→room'=room∧E=KK∧D=dmAt KK KK.length)∧(okC room KK=false→D=.map [])
set_option maxHeartbeats 1600000 in
theorem shelfOf (v:Value)(room:Int)(KK:List Kn)(w:World)(hn:KK.length≤1048576)(hd:∀ i,(KK.getD i kz).dg.size≤maxLen)(hv:VKns w v KK) :
  Calls Tryz.prog 47 #[.agg #[.int .i64 room,v]] w fun e w'=>ShelfE w room KK e w':=by
 obtain⟨a,cap,rfl⟩:=hv.len
 obtain⟨W1,hW1⟩:∃ W1,W1=w.alloc (.cells #[.int .i64 room,.slice a KK.length cap] 30):=⟨_,rfl⟩
 have g1:w.grownBy W1 none:=by rw [hW1];exact World.grownBy_alloc _ _ _
 have s1:W1.heap.size=w.heap.size+1:=by rw [hW1,World.size_alloc]
 have B1:Box 30 W1 w.heap.size (.int .i64 room) (.slice a KK.length cap):=by rw [hW1];exact Box.new _ _ _ _
 obtain⟨W2,hW2⟩:∃ W2,W2=W1.alloc (.map #[] 0):=⟨_,rfl⟩
 obtain⟨W3,hW3⟩:∃ W3,W3=W2.alloc (.cells #[.int .i32 0,.int .u32 0,.int .i64 0,.slice none 0 0,.map (some (w.heap.size+1))] 126):=⟨_,rfl⟩
 have g2:W1.grownBy W2 none:=by rw [hW2];exact World.grownBy_alloc _ _ _
 have g3:W2.grownBy W3 none:=by rw [hW3];exact World.grownBy_alloc _ _ _
 have s2:W2.heap.size=w.heap.size+1+1:=by rw [hW2,World.size_alloc,s1]
 have m2:W2.ownsMap Tryz.prog 9 (plainElem (H:=Unit) Tryz.prog 3) (w.heap.size+1) 0 (.map []):=by
  have:=World.ownsMap_made W1 Tryz.prog 9 (plainElem (H:=Unit) Tryz.prog 3)
  rw [s1,←hW2] at this
  exact this
 have S3:Shf w W3 (w.heap.size+1+1) (w.heap.size+1) 0 0 (.slice none 0 0) [] (.map []):=by
  refine⟨grown_trans (r:=none) (grown_trans (r:=none) g1 g2) g3,?_,⟨[],rfl,World.ownsRow_nil ..,fun p hp=>by cases hp⟩,m2.kept g3 (by simp),by omega,by omega⟩
  have:=Go.heap_alloc_new W2 (.cells #[.int .i32 0,.int .u32 0,.int .i64 0,.slice none 0 0,.map (some (w.heap.size+1))] 126)
  rw [s2,←hW3] at this
  exact this
 have B3:=(B1.kept g2).kept g3
 have CF:=hide (fill (.slice a KK.length cap) room KK _ _ w W3 S3 hn hd hv)
 have b0:=B3.c0
 have b1:=B3.c1
 have hmm:=@run_makeMap Tryz.prog
 clear g1 g2 g3 s1 s2 B1 m2 S3 B3 hv hd
 go_enter Tryz.func47,Tryz.ntmps47
 go_wp2_with fail
 rw [←hW1,←hW2,←hW3]
 clear hW1 hW2 hW3 b0 b1
 refine (unhide CF).mono ?_;rintro e w4 ⟨rfl,room',v',E,D,S4,hy,hno⟩
 have R:Hid (Shf w w4 _ _ 0 room' v' E D∧(okC room KK=true→room'=room∧E=KK∧D=dmAt KK KK.length)∧(okC room KK=false→D=.map [])):=⟨S4,hy,hno⟩
 clear S4 hy hno CF hmm
 go_wp2_with fail
 go_ret2
 exact⟨_,_,room',v',E,D,rfl,unhide R⟩
theorem implCacheOk (v:Value)(room:Int)(KK:List Kn)(w:World)(hn:KK.length≤1048576)(hd:∀ i,(KK.getD i kz).dg.size≤maxLen)(hv:VKns w v KK) :
  Calls Tryz.prog 15 #[.agg #[.int .i64 room,v]] w fun e w'=>e=.returned (.bool (okC room KK))∧w.grownBy w' none:=by
 have ga:=World.grownBy_alloc w (.cells #[.int .i64 room,v] 30) none
 have C:=hide (shelfOf v room KK _ hn hd (hv.kept ga))
 have G:=hide ga
 clear hv hd ga
 go_enter Tryz.func15,Tryz.ntmps15
 go_wp2_with fail
 refine (unhide C).mono ?_;rintro e w1 ⟨s,bm,room',v',E,D,rfl,S1,_⟩
 have G1:=hide (grown_trans (r:=none) (unhide G) S1.g)
 clear S1 C G
 go_wp2_with fail
 go_ret
 exact⟨rfl,unhide G1⟩
def inB (x a b:Int):Bool:=decide (a≤x) && decide (x≤b)
theorem l01In (x a b:Int)(w:World):Calls Tryz.prog 88 #[.int .i64 x,.int .i64 a,.int .i64 b] w fun e w'=>e=.returned (.bool (inB x a b))∧w'=w:=by
 by_cases h0:a≤x
 ·by_cases h1:x≤b
  ·have e:Hid (inB x a b=true):=by show _=_;unfold inB;rw [decide_eq_true h0,decide_eq_true h1];rfl
   go_enter Tryz.func88,Tryz.ntmps88
   go_wp2
   go_ret
   exact⟨by rw [unhide e];rfl,rfl⟩
  ·have e:Hid (inB x a b=false):=by show _=_;unfold inB;rw [decide_eq_true h0,decide_eq_false h1];rfl
   go_enter Tryz.func88,Tryz.ntmps88
   go_wp2
   go_ret
   exact⟨by rw [unhide e];rfl,rfl⟩
 ·have e:Hid (inB x a b=false):=by show _=_;unfold inB;rw [decide_eq_false h0];rfl
  go_enter Tryz.func88,Tryz.ntmps88
  go_wp2
  go_ret
  exact⟨by rw [unhide e];rfl,rfl⟩
theorem toList_ne {a b:ByteArray}(h:a≠b):(a.toList == b.toList)=false:=by
 rw [beq_eq_false_iff_ne]
 intro e
 rw [ByteArray.toList_eq,ByteArray.toList_eq] at e
 exact h (ByteArray.ext (Array.toList_inj.1 e))
set_option maxHeartbeats 4000000 in
theorem specCacheOk (v:Value)(room:Int)(KK:List Kn)(w:World)(hn:KK.length≤1048576)(hv:Kns w v KK) :
  Calls Tryz.prog 45 #[.agg #[.int .i64 room,v]] w fun e w'=>e=.returned (.bool (okC room KK))∧w.grownBy w' none:=by
 obtain⟨a,cap,rfl⟩:=hv.len
 obtain⟨W1,hW1⟩:∃ W1,W1=w.alloc (.cells #[.int .i64 room,.slice a KK.length cap] 30):=⟨_,rfl⟩
 have g1:w.grownBy W1 none:=by rw [hW1];exact World.grownBy_alloc _ _ _
 have B1:Box 30 W1 w.heap.size (.int .i64 room) (.slice a KK.length cap):=by rw [hW1];exact Box.new _ _ _ _
 have C1:=hide (l01In room 0 50 W1)
 have G:=hide g1
 have B:=hide B1
 obtain⟨a',cap',hva,ha⟩:=hv.kept g1
 simp only [Value.slice.injEq] at hva
 obtain⟨rfl,_,rfl⟩:=hva
 have HA:=hide ha
 have b0:=B1.c0
 have b1:=B1.c1
 rw [hW1] at b0 b1
 clear g1 B1 hv ha
 by_cases r0:0≤room∧room≤50
 ·rw [show inB room 0 50=true by unfold inB;rw [decide_eq_true r0.1,decide_eq_true r0.2];rfl] at C1
  by_cases r2:room<(KK.length:Int)
  ·have HO:=hide (okC_room (room:=room) (KK:=KK) (.inr (.inr r2)))
   go_enter Tryz.func45,Tryz.ntmps45
   go_wp2_with fail
   rw [←hW1]
   refine (unhide C1).mono ?_;rintro e w2 ⟨rfl,hw⟩;have hw':=hw.symm;clear hw;subst hw'
   rw [←hW1] at b0 b1
   clear hW1
   go_wp2_with fail
   go_ret
   exact⟨by rw [unhide HO];rfl,unhide G⟩
  ·have HO:=hide (okC_fine (room:=room) (KK:=KK) r0.1 r0.2 (by omega))
   go_enter Tryz.func45,Tryz.ntmps45
   go_wp2_with fail
   rw [←hW1]
   refine (unhide C1).mono ?_;rintro e w2 ⟨rfl,hw⟩;have hw':=hw.symm;clear hw;subst hw'
   rw [←hW1] at b0 b1
   clear hW1
   generalize w.heap.size=cb at *
   go_wp2_with fail
   clear b0 b1 C1
   go_loopw [3] (fun i wr=>∃ j:Nat,j≤KK.length∧i=.int .i64 j∧Hid (okTo KK j=true)∧Hid (W1.grownBy wr none)) (fun i _=>KK.length - (intOf i).toNat)
   case atStart=>exact⟨0,Nat.zero_le _,rfl,rfl,grown_refl _⟩
   case round =>
    obtain⟨j,hj,rfl,HK,hg⟩:=hrel
    have b1:=((unhide B).kept (unhide hg)).c1
    by_cases hlt:j<KK.length
    ·rcases unhide HA with h | ⟨b,off,rfl,hb,hcb⟩
     ·rw [h] at hlt
      simp at hlt
     ·have hi':(j:Int)<(KK.length:Int):=by omega
      obtain⟨u,hu⟩:=hcb j hlt
      have e0:=hu.1
      have e3:=((hu.kept (unhide hg)).2.2.2.1)
      have HC:=hide hcb
      have hok1:Hid (okTo KK (j+1)=(okTo KK j && (newTo KK (KK.getD j kz).dg j && costB (KK.getD j kz).cost))):=rfl
      have CC:=hide (fun w=>l01In (KK.getD j kz).cost 0 1000000 w)
      have hcost:Hid (inB (KK.getD j kz).cost 0 1000000=costB (KK.getD j kz).cost):=rfl
      rw [unhide hcost] at CC
      generalize KK.getD j kz=x at *
      obtain⟨dg,sat,vals,cost⟩:=x
      dsimp only at *
      clear hu hcb hcost
      cases hcb:costB cost
      ·rw [hcb] at CC hok1
       have HF:Hid (okC room KK=false):=by show _=_;rw [unhide HO];exact okTo_less KK hlt (by rw [unhide hok1];simp)
       clear hok1 HC HA hcb
       go_wp2_with fail
       refine (unhide CC _).mono ?_;rintro e w2 ⟨rfl,hw⟩;have hw':=hw.symm;clear hw;subst hw'
       go_wp2_with fail
       go_ret
       exact⟨by rw [unhide HF];rfl,grown_trans (unhide G) (unhide hg)⟩
      ·rw [hcb] at CC hok1
       clear hcb HA
       go_wp2_with fail
       refine (unhide CC _).mono ?_;rintro e w2 ⟨rfl,hw⟩;have hw':=hw.symm;clear hw;subst hw'
       clear CC e3 b1
       go_wp2_with fail
       go_loopw [4] (fun i wx=>∃ k:Nat,k≤j∧i=.int .i64 k∧Hid (newTo KK dg k=true)∧Hid (W1.grownBy wx none)) (fun i _=>j - (intOf i).toNat)
       case atStart=>exact⟨0,Nat.zero_le _,rfl,rfl,hg⟩
       case round =>
        obtain⟨k,hk,rfl,HN,hg2⟩:=hrel
        have b2:=((unhide B).kept (unhide hg2)).c1
        by_cases hkj:k<j
        ·have hk':(k:Int)<(j:Int):=by omega
         have hk2:(k:Int)<(KK.length:Int):=by omega
         obtain⟨u2,hu2⟩:=unhide HC k (by omega)
         have f0:=(hu2.kept (unhide hg2)).1
         have f1:=(unhide hg2).cell e0 (fun e=>by cases e)
         have hnn:Hid (newTo KK dg (k+1)=(newTo KK dg k && !((KK.getD k kz).dg.data.toList == dg.data.toList))):=rfl
         have hne:=newTo_iff KK dg j
         generalize hq:(KK.getD k kz).dg=dk at *
         have GD:=hide (grown_trans (r:=none) (unhide hg2) (cf.grown_drew wr none))
         by_cases heq:dk=dg
         ·have hqq:(dk.toList == dg.toList)=true:=by rw [heq];exact beq_self_eq_true _
          have HF:Hid (okC room KK=false):=by
           show _=_
           rw [unhide HO]
           refine okTo_less KK hlt ?_
           rw [unhide hok1]
           have:newTo KK dg j=false:=by
            cases hx:newTo KK dg j
            ·rfl
            ·exact absurd (hq.trans heq) (hne.1 hx k hkj)
           rw [this]
           simp
          clear hok1 HC HN hnn hne hq heq hu2 HK
          go_wp2_with fail
          go_quiet (fail)
          go_wp2_with fail
          go_ret
          exact⟨by rw [unhide HF];rfl,grown_trans (unhide G) (grown_trans (r:=none) (unhide hg2) (grown_drewN _ _))⟩
         ·have hqq:(dk.toList == dg.toList)=false:=by
           exact toList_ne heq
          have HN2:Hid (newTo KK dg (k+1)=true):=by
           show _=_
           rw [unhide hnn,unhide HN]
           have:(dk.data.toList == dg.data.toList)=false:=by
            cases hx:(dk.data.toList == dg.data.toList)
            ·rfl
            ·exact absurd (dg_eq.1 hx) heq
           rw [this]
           rfl
          clear hok1 HC HN hnn hne hq heq hu2
          go_wp2_with fail
          go_quiet (fail)
          go_wp2_with fail
          go_roundw
          case rel=>exact⟨k+1,by omega,by go_num,HN2,grown_trans (r:=none) (unhide hg2) (grown_drewN _ _)⟩
          case measure=>simp [intOf];omega
        ·have hk':¬ (k:Int)<(j:Int):=by omega
         have hkk:k=j:=by omega
         have HK2:Hid (okTo KK (j+1)=true):=by
          show _=_
          rw [unhide hok1,unhide HK]
          have:=unhide HN
          rw [hkk] at this
          rw [this]
          rfl
         clear hok1 HC HN HK hkk
         go_wp2_with fail
         go_roundw
         case rel=>exact⟨j+1,by omega,by go_num,HK2,hg2⟩
         case measure=>simp [intOf];omega
    ·have hi':¬ (j:Int)<(KK.length:Int):=by omega
     have hjj:j=KK.length:=by omega
     have HF:Hid (okC room KK=true):=by show _=_;rw [unhide HO,←hjj];exact unhide HK
     clear HK hjj HA
     go_wp2_with fail
     go_ret
     exact⟨by rw [unhide HF];rfl,grown_trans (unhide G) (unhide hg)⟩
 ·have HO:Hid (okC room KK=false):=okC_room (by omega)
  have hr:inB room 0 50=false:=by
   unfold inB
   rw [Bool.and_eq_false_iff,decide_eq_false_iff_not,decide_eq_false_iff_not]
   omega
  rw [hr] at C1
  clear hr
  go_enter Tryz.func45,Tryz.ntmps45
  go_wp2_with fail
  rw [←hW1]
  refine (unhide C1).mono ?_;rintro e w2 ⟨rfl,hw⟩;have hw':=hw.symm;clear hw;subst hw'
  rw [←hW1] at b0 b1
  clear hW1
  go_wp2_with fail
  go_ret
  exact⟨by rw [unhide HO];rfl,unhide G⟩
end Go.Proofs.YtnlllcgcaddhmaaGreatDoor.ua
