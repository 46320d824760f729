/- What the model's Lookup answers; no condition but on the sizes. -/
import Derived.Test.YtnlllcgcaddhmaaGreatDoorJLv
namespace Go.Proofs.YtnlllcgcaddhmaaGreatDoor.an
open Go.ChangeShapes Go.WideShapes Go.ChangeAt Go.RowKit
open srt (Tab)
open css (tot Sls OwnS Outs)
open cf (Box)
open yb (Box4)
open txt (Pow)
open zk (TabK TabS)
open ua (Kn kz fndB fndK fndL putK okC VKns Vl OwnK RwK FindE FindS)
open sl (Sl ints hide unhide grown_refl grown_trans)
set_option linter.unusedVariables false
set_option maxRecDepth 10000 in
set_option maxHeartbeats 8000000 in
theorem specLookup (v u:Value)(room:Int)(KK:List Kn)(n:Int)(LL:List (List Int))(w:World)(hn:ua.tot KK≤1048576)(hn2:tot LL≤1048576)(hv:VKns w v KK)(hu:Sls w u LL) :
  Calls Tryz.prog 14 #[.agg #[.int .i64 room,v],.agg #[.int .i64 n,u]] w fun e w'=>LkS w room (lkK room KK n LL) (lkL room KK n LL) (lkB room KK n LL) e w':=by
 obtain⟨a,cap,rfl⟩:=hv.len
 have h1:=Nat.le_trans (ua.tot_len KK) hn
 have h2:=fun i=>Nat.le_trans (ua.tot_vals KK i) hn
 obtain⟨W1,hW1⟩:∃ W1,W1=ini w room (.slice a KK.length cap) n u:=⟨_,rfl⟩
 have I1:Ini w W1 room (.slice a KK.length cap) n u:=by rw [hW1];exact Ini.start _ _ _ _ _
 obtain⟨S,hS⟩:∃ S,S=dgA n LL:=⟨_,rfl⟩
 have CD:Hid (∀ w1,W1.grownBy w1 none→Calls Tryz.prog 37 #[.agg #[.int .i64 n,u]] w1 fun e w'=>e=.returned (.string S)∧w1.grownBy w' none):=fun w1 g=>by rw [hS];exact da.specDigest u n LL w1 hn2 (hu.kept (grown_trans (r:=none) I1.g g))
 have CF0:=fun w1 (g:W1.grownBy w1 none)=>(ua.specCacheFind (.slice a KK.length cap) room KK S w1 hn (hv.kept (grown_trans (r:=none) I1.g g))).mono (fun e w' h=>fndS h)
 have CA:=(fun w1 (g:W1.grownBy w1 none)=>specAsk u n LL w1 hn2 (hu.kept (grown_trans (r:=none) I1.g g)))
 have CO:=(fun w1 (g:W1.grownBy w1 none)=>ua.specCacheOk (.slice a KK.length cap) room KK w1 h1 (hv.kept (grown_trans (r:=none) I1.g g)).kns)
 have CY:=(fun w1 (g:W1.grownBy w1 none)=>ua.l10Copy (.slice a KK.length cap) room KK w1 h1 h2 (hv.kept (grown_trans (r:=none) I1.g g)))
 have CP:=(fun x w1 (g:W1.grownBy w1 none) (hx:Vl w1 x (askK n LL).vals)=>ua.specCachePutT (.slice a KK.length cap) x room KK (askK n LL) w1 hn (Nat.le_trans (ask_vals n LL) (by decide)) (hv.kept (grown_trans (r:=none) I1.g g)) hx)
 obtain⟨AK,hAK⟩:∃ AK,AK=askK n LL:=⟨_,rfl⟩
 obtain⟨ab,hab⟩:∃ ab,ab=askB n LL:=⟨_,rfl⟩
 obtain⟨ok,hok⟩:∃ ok,ok=okC room KK:=⟨_,rfl⟩
 rw [←hAK] at CP CA
 rw [←hab] at CA
 rw [←hok] at CO
 obtain⟨adg,asat,avals,acost⟩:=AK
 dsimp only at CP CA
 unfold AskE at CA
 dsimp only at CA
 obtain⟨b,hb⟩:∃ b,b=fndB room KK S:=⟨_,rfl⟩
 obtain⟨K,hKK⟩:∃ K,K=fndK room KK S:=⟨_,rfl⟩
 obtain⟨L,hL⟩:∃ L,L=fndL room KK S:=⟨_,rfl⟩
 rw [←hKK,←hL,←hb] at CF0
 obtain⟨dg,sat,vals,cost⟩:=K
 dsimp only at CF0
 obtain⟨PP,hPP⟩:∃ PP,PP=PS L vals:=⟨_,rfl⟩
 have cl:∀ lo hi y z,Cl (fun w=>PP lo hi w y z) lo hi:=by rw [hPP];exact fun lo hi y z=>clS L vals lo hi y z
 rw [←hPP] at CF0
 unfold FndP at CF0
 obtain⟨nL,hnL⟩:∃ nL,nL=L.length:=⟨_,rfl⟩
 obtain⟨nV,hnV⟩:∃ nV,nV=vals.length:=⟨_,rfl⟩
 rw [←hnL,←hnV] at CF0
 have CF:=hide CF0
 have CA':=hide CA
 have CP':=hide CP
 have CO':=hide CO
 have CY':=hide CY
 have HAK:=hide hAK
 have HAB:=hide hab
 have HOK:=hide hok
 clear CA CP CO CY hAK hab hok
 have HCL:=hide cl
 have HI:=hide I1
 have HQ:=hide hKK
 have HL:=hide hL
 have HB:=hide hb
 have HS:=hide hS
 have HPP:=hide hPP
 have HNL:=hide hnL
 have HNV:=hide hnV
 have b0:=I1.b.c0
 have b1:=I1.b.c1
 have f0:=I1.f.c0
 have f1:=I1.f.c1
 have CK:Hid (∀ w',W1.grownBy w' none→w'.cell? ⟨w.heap.size,0,none⟩=some (.int .i64 room)∧w'.cell? ⟨w.heap.size,1,none⟩=some (.slice a KK.length cap)∧w'.cell? ⟨w.heap.size+1,0,none⟩=some (.int .i64 n)∧w'.cell? ⟨w.heap.size+1,1,none⟩=some u):=fun w' g=>⟨((unhide HI).kept g).b.c0,((unhide HI).kept g).b.c1,((unhide HI).kept g).f.c0,((unhide HI).kept g).f.c1⟩
 have x1:=I1.f.lt
 have x1a:¬ w.heap.size=W1.heap.size+1:=(by have:=x1;omega)
 have x1b:¬ w.heap.size+1=W1.heap.size+1:=(by have:=x1;omega)
 have x1c:¬ w.heap.size=W1.heap.size:=(by have:=x1;omega)
 have x1d:¬ w.heap.size+1=W1.heap.size:=(by have:=x1;omega)
 have e0:=World.new_ne W1 _ b0
 have e1:=World.new_ne W1 _ f0
 have e0p:=World.new_ne (W1.alloc (.cells #[.int .i64 0,.slice none 0 0] 30)) _ ((World.grownBy_alloc W1 (.cells #[.int .i64 0,.slice none 0 0] 30) none).cell b0 (fun e=>by cases e))
 rw [World.size_alloc] at e0p
 have e1p:=World.new_ne (W1.alloc (.cells #[.int .i64 0,.slice none 0 0] 30)) _ ((World.grownBy_alloc W1 (.cells #[.int .i64 0,.slice none 0 0] 30) none).cell f0 (fun e=>by cases e))
 rw [World.size_alloc] at e1p
 clear I1 CF0 hKK hL hb hS hPP hnL hnV cl hv hu hn hn2 h1 h2
 unfold ini at hW1
 go_enter Tryz.func14,Tryz.ntmps14
 go_upto_region 1 with fail
 rw [←hW1]
 clear hW1
 go_cut [7,8,9] (fun p q r wx=>r=.bool b∧Hid (Cc PP W1 wx p q room dg sat cost))
 case first =>
  go_region_held3 (fun w'=>w'.cell? ⟨w.heap.size,0,none⟩=some (.int .i64 room)∧w'.cell? ⟨w.heap.size,1,none⟩=some (.slice a KK.length cap)∧w'.cell? ⟨w.heap.size+1,0,none⟩=some (.int .i64 n)∧w'.cell? ⟨w.heap.size+1,1,none⟩=some u) (go_keep) (first
   | (go_at_call 37;(first | (refine (unhide CD _ (grown_trans (r:=none) (grown_refl W1) (cf.grown_drew W1 none))).mono ?_;rintro e w2 ⟨rfl,g2⟩;have GN:=hide (grown_trans (r:=none) (grown_trans (r:=none) (grown_refl W1) (cf.grown_drew W1 none)) g2)) | (refine (unhide CD _ (grown_trans (r:=none) (grown_trans (r:=none) (grown_refl W1) (World.grownBy_alloc W1 (.cells #[.int .i64 0,.slice none 0 0] 30) none)) (cf.grown_drew (W1.alloc (.cells #[.int .i64 0,.slice none 0 0] 30)) none))).mono ?_;rintro e w2 ⟨rfl,g2⟩;have GN:=hide (grown_trans (r:=none) (grown_trans (r:=none) (grown_trans (r:=none) (grown_refl W1) (World.grownBy_alloc W1 (.cells #[.int .i64 0,.slice none 0 0] 30) none)) (cf.grown_drew (W1.alloc (.cells #[.int .i64 0,.slice none 0 0] 30)) none)) g2);have BXc:=hide (((Box.new 30 W1 (.int .i64 0) (.slice none 0 0)).kept (cf.grown_drew (W1.alloc (.cells #[.int .i64 0,.slice none 0 0] 30)) none)).kept g2)) | (refine (unhide CD _ (grown_trans (r:=none) (grown_trans (r:=none) (grown_refl W1) (World.grownBy_alloc W1 (.cells #[.string ⟨#[]⟩,.bool false,.slice none 0 0,.int .i64 0] 36) none)) (cf.grown_drew (W1.alloc (.cells #[.string ⟨#[]⟩,.bool false,.slice none 0 0,.int .i64 0] 36)) none))).mono ?_;rintro e w2 ⟨rfl,g2⟩;have GN:=hide (grown_trans (r:=none) (grown_trans (r:=none) (grown_trans (r:=none) (grown_refl W1) (World.grownBy_alloc W1 (.cells #[.string ⟨#[]⟩,.bool false,.slice none 0 0,.int .i64 0] 36) none)) (cf.grown_drew (W1.alloc (.cells #[.string ⟨#[]⟩,.bool false,.slice none 0 0,.int .i64 0] 36)) none)) g2);have BXk:=hide (((Box4.new 36 W1 (.string ⟨#[]⟩) (.bool false) (.slice none 0 0) (.int .i64 0)).kept (cf.grown_drew (W1.alloc (.cells #[.string ⟨#[]⟩,.bool false,.slice none 0 0,.int .i64 0] 36)) none)).kept g2)) | (refine (unhide CD _ (grown_trans (r:=none) (grown_trans (r:=none) (grown_trans (r:=none) (grown_refl W1) (World.grownBy_alloc W1 (.cells #[.int .i64 0,.slice none 0 0] 30) none)) (World.grownBy_alloc (W1.alloc (.cells #[.int .i64 0,.slice none 0 0] 30)) (.cells #[.string ⟨#[]⟩,.bool false,.slice none 0 0,.int .i64 0] 36) none)) (cf.grown_drew ((W1.alloc (.cells #[.int .i64 0,.slice none 0 0] 30)).alloc (.cells #[.string ⟨#[]⟩,.bool false,.slice none 0 0,.int .i64 0] 36)) none))).mono ?_;rintro e w2 ⟨rfl,g2⟩;have GN:=hide (grown_trans (r:=none) (grown_trans (r:=none) (grown_trans (r:=none) (grown_trans (r:=none) (grown_refl W1) (World.grownBy_alloc W1 (.cells #[.int .i64 0,.slice none 0 0] 30) none)) (World.grownBy_alloc (W1.alloc (.cells #[.int .i64 0,.slice none 0 0] 30)) (.cells #[.string ⟨#[]⟩,.bool false,.slice none 0 0,.int .i64 0] 36) none)) (cf.grown_drew ((W1.alloc (.cells #[.int .i64 0,.slice none 0 0] 30)).alloc (.cells #[.string ⟨#[]⟩,.bool false,.slice none 0 0,.int .i64 0] 36)) none)) g2);have BXc:=hide ((((Box.new 30 W1 (.int .i64 0) (.slice none 0 0)).kept (World.grownBy_alloc (W1.alloc (.cells #[.int .i64 0,.slice none 0 0] 30)) (.cells #[.string ⟨#[]⟩,.bool false,.slice none 0 0,.int .i64 0] 36) none)).kept (cf.grown_drew ((W1.alloc (.cells #[.int .i64 0,.slice none 0 0] 30)).alloc (.cells #[.string ⟨#[]⟩,.bool false,.slice none 0 0,.int .i64 0] 36)) none)).kept g2);have BXk:=hide (((Box4.new 36 (W1.alloc (.cells #[.int .i64 0,.slice none 0 0] 30)) (.string ⟨#[]⟩) (.bool false) (.slice none 0 0) (.int .i64 0)).kept (cf.grown_drew ((W1.alloc (.cells #[.int .i64 0,.slice none 0 0] 30)).alloc (.cells #[.string ⟨#[]⟩,.bool false,.slice none 0 0,.int .i64 0] 36)) none)).kept g2)) | (refine (unhide CD _ (grown_trans (r:=none) (grown_trans (r:=none) (grown_trans (r:=none) (grown_refl W1) (World.grownBy_alloc W1 (.cells #[.string ⟨#[]⟩,.bool false,.slice none 0 0,.int .i64 0] 36) none)) (World.grownBy_alloc (W1.alloc (.cells #[.string ⟨#[]⟩,.bool false,.slice none 0 0,.int .i64 0] 36)) (.cells #[.int .i64 0,.slice none 0 0] 30) none)) (cf.grown_drew ((W1.alloc (.cells #[.string ⟨#[]⟩,.bool false,.slice none 0 0,.int .i64 0] 36)).alloc (.cells #[.int .i64 0,.slice none 0 0] 30)) none))).mono ?_;rintro e w2 ⟨rfl,g2⟩;have GN:=hide (grown_trans (r:=none) (grown_trans (r:=none) (grown_trans (r:=none) (grown_trans (r:=none) (grown_refl W1) (World.grownBy_alloc W1 (.cells #[.string ⟨#[]⟩,.bool false,.slice none 0 0,.int .i64 0] 36) none)) (World.grownBy_alloc (W1.alloc (.cells #[.string ⟨#[]⟩,.bool false,.slice none 0 0,.int .i64 0] 36)) (.cells #[.int .i64 0,.slice none 0 0] 30) none)) (cf.grown_drew ((W1.alloc (.cells #[.string ⟨#[]⟩,.bool false,.slice none 0 0,.int .i64 0] 36)).alloc (.cells #[.int .i64 0,.slice none 0 0] 30)) none)) g2);have BXk:=hide ((((Box4.new 36 W1 (.string ⟨#[]⟩) (.bool false) (.slice none 0 0) (.int .i64 0)).kept (World.grownBy_alloc (W1.alloc (.cells #[.string ⟨#[]⟩,.bool false,.slice none 0 0,.int .i64 0] 36)) (.cells #[.int .i64 0,.slice none 0 0] 30) none)).kept (cf.grown_drew ((W1.alloc (.cells #[.string ⟨#[]⟩,.bool false,.slice none 0 0,.int .i64 0] 36)).alloc (.cells #[.int .i64 0,.slice none 0 0] 30)) none)).kept g2);have BXc:=hide (((Box.new 30 (W1.alloc (.cells #[.string ⟨#[]⟩,.bool false,.slice none 0 0,.int .i64 0] 36)) (.int .i64 0) (.slice none 0 0)).kept (cf.grown_drew ((W1.alloc (.cells #[.string ⟨#[]⟩,.bool false,.slice none 0 0,.int .i64 0] 36)).alloc (.cells #[.int .i64 0,.slice none 0 0] 30)) none)).kept g2)));have G2:=GN;obtain⟨k1,k2,k3,k4⟩:=unhide CK _ (unhide G2);have e2:=World.new_ne w2 _ k1;have e3:=World.new_ne w2 _ k3;have e2p:=World.new_ne (w2.alloc (.cells #[.int .i64 0,.slice none 0 0] 30)) _ ((World.grownBy_alloc w2 (.cells #[.int .i64 0,.slice none 0 0] 30) none).cell k1 (fun e=>by cases e));rw [World.size_alloc] at e2p;have e3p:=World.new_ne (w2.alloc (.cells #[.int .i64 0,.slice none 0 0] 30)) _ ((World.grownBy_alloc w2 (.cells #[.int .i64 0,.slice none 0 0] 30) none).cell k3 (fun e=>by cases e));rw [World.size_alloc] at e3p;(try simp only [World.size_alloc] at BXc);(try simp only [World.size_alloc] at BXk);(try (have nc1:=Nat.ne_of_lt (unhide BXc).lt));(try (have nc2:=Nat.ne_of_gt (unhide BXc).lt));(try (have nk1:=Nat.ne_of_lt (unhide BXk).lt));(try (have nk2:=Nat.ne_of_gt (unhide BXk).lt));have x2:=((unhide HI).kept (unhide G2)).f.lt;have x2a:¬ w.heap.size=w2.heap.size+1:=(by have:=x2;omega);have x2b:¬ w.heap.size+1=w2.heap.size+1:=(by have:=x2;omega);have x2c:¬ w.heap.size=w2.heap.size:=(by have:=x2;omega);have x2d:¬ w.heap.size+1=w2.heap.size:=(by have:=x2;omega);clear g2 GN)
   | (go_at_call 44;(first | (refine (unhide CF _ (unhide G2)).mono ?_;rintro e w3 ⟨ua3,uc3,va3,vc3,rfl,p3,g3⟩;have P3:=hide p3;clear p3;have GN:=hide (grown_trans (r:=none) (unhide G2) g3);have G23:=hide (grown_trans (r:=none) (grown_refl w2) g3)) | (refine (unhide CF _ (grown_trans (r:=none) (unhide G2) (World.grownBy_alloc w2 (.cells #[.int .i64 0,.slice none 0 0] 30) none))).mono ?_;rintro e w3 ⟨ua3,uc3,va3,vc3,rfl,p3,g3⟩;have P3:=hide p3;clear p3;have GN:=hide (grown_trans (r:=none) (grown_trans (r:=none) (unhide G2) (World.grownBy_alloc w2 (.cells #[.int .i64 0,.slice none 0 0] 30) none)) g3);have G23:=hide (grown_trans (r:=none) (grown_trans (r:=none) (grown_refl w2) (World.grownBy_alloc w2 (.cells #[.int .i64 0,.slice none 0 0] 30) none)) g3);have BYc:=hide ((Box.new 30 w2 (.int .i64 0) (.slice none 0 0)).kept g3)) | (refine (unhide CF _ (grown_trans (r:=none) (unhide G2) (World.grownBy_alloc w2 (.cells #[.string ⟨#[]⟩,.bool false,.slice none 0 0,.int .i64 0] 36) none))).mono ?_;rintro e w3 ⟨ua3,uc3,va3,vc3,rfl,p3,g3⟩;have P3:=hide p3;clear p3;have GN:=hide (grown_trans (r:=none) (grown_trans (r:=none) (unhide G2) (World.grownBy_alloc w2 (.cells #[.string ⟨#[]⟩,.bool false,.slice none 0 0,.int .i64 0] 36) none)) g3);have G23:=hide (grown_trans (r:=none) (grown_trans (r:=none) (grown_refl w2) (World.grownBy_alloc w2 (.cells #[.string ⟨#[]⟩,.bool false,.slice none 0 0,.int .i64 0] 36) none)) g3);have BYk:=hide ((Box4.new 36 w2 (.string ⟨#[]⟩) (.bool false) (.slice none 0 0) (.int .i64 0)).kept g3)) | (refine (unhide CF _ (grown_trans (r:=none) (grown_trans (r:=none) (unhide G2) (World.grownBy_alloc w2 (.cells #[.int .i64 0,.slice none 0 0] 30) none)) (World.grownBy_alloc (w2.alloc (.cells #[.int .i64 0,.slice none 0 0] 30)) (.cells #[.string ⟨#[]⟩,.bool false,.slice none 0 0,.int .i64 0] 36) none))).mono ?_;rintro e w3 ⟨ua3,uc3,va3,vc3,rfl,p3,g3⟩;have P3:=hide p3;clear p3;have GN:=hide (grown_trans (r:=none) (grown_trans (r:=none) (grown_trans (r:=none) (unhide G2) (World.grownBy_alloc w2 (.cells #[.int .i64 0,.slice none 0 0] 30) none)) (World.grownBy_alloc (w2.alloc (.cells #[.int .i64 0,.slice none 0 0] 30)) (.cells #[.string ⟨#[]⟩,.bool false,.slice none 0 0,.int .i64 0] 36) none)) g3);have G23:=hide (grown_trans (r:=none) (grown_trans (r:=none) (grown_trans (r:=none) (grown_refl w2) (World.grownBy_alloc w2 (.cells #[.int .i64 0,.slice none 0 0] 30) none)) (World.grownBy_alloc (w2.alloc (.cells #[.int .i64 0,.slice none 0 0] 30)) (.cells #[.string ⟨#[]⟩,.bool false,.slice none 0 0,.int .i64 0] 36) none)) g3);have BYc:=hide (((Box.new 30 w2 (.int .i64 0) (.slice none 0 0)).kept (World.grownBy_alloc (w2.alloc (.cells #[.int .i64 0,.slice none 0 0] 30)) (.cells #[.string ⟨#[]⟩,.bool false,.slice none 0 0,.int .i64 0] 36) none)).kept g3);have BYk:=hide ((Box4.new 36 (w2.alloc (.cells #[.int .i64 0,.slice none 0 0] 30)) (.string ⟨#[]⟩) (.bool false) (.slice none 0 0) (.int .i64 0)).kept g3)) | (refine (unhide CF _ (grown_trans (r:=none) (grown_trans (r:=none) (unhide G2) (World.grownBy_alloc w2 (.cells #[.string ⟨#[]⟩,.bool false,.slice none 0 0,.int .i64 0] 36) none)) (World.grownBy_alloc (w2.alloc (.cells #[.string ⟨#[]⟩,.bool false,.slice none 0 0,.int .i64 0] 36)) (.cells #[.int .i64 0,.slice none 0 0] 30) none))).mono ?_;rintro e w3 ⟨ua3,uc3,va3,vc3,rfl,p3,g3⟩;have P3:=hide p3;clear p3;have GN:=hide (grown_trans (r:=none) (grown_trans (r:=none) (grown_trans (r:=none) (unhide G2) (World.grownBy_alloc w2 (.cells #[.string ⟨#[]⟩,.bool false,.slice none 0 0,.int .i64 0] 36) none)) (World.grownBy_alloc (w2.alloc (.cells #[.string ⟨#[]⟩,.bool false,.slice none 0 0,.int .i64 0] 36)) (.cells #[.int .i64 0,.slice none 0 0] 30) none)) g3);have G23:=hide (grown_trans (r:=none) (grown_trans (r:=none) (grown_trans (r:=none) (grown_refl w2) (World.grownBy_alloc w2 (.cells #[.string ⟨#[]⟩,.bool false,.slice none 0 0,.int .i64 0] 36) none)) (World.grownBy_alloc (w2.alloc (.cells #[.string ⟨#[]⟩,.bool false,.slice none 0 0,.int .i64 0] 36)) (.cells #[.int .i64 0,.slice none 0 0] 30) none)) g3);have BYk:=hide (((Box4.new 36 w2 (.string ⟨#[]⟩) (.bool false) (.slice none 0 0) (.int .i64 0)).kept (World.grownBy_alloc (w2.alloc (.cells #[.string ⟨#[]⟩,.bool false,.slice none 0 0,.int .i64 0] 36)) (.cells #[.int .i64 0,.slice none 0 0] 30) none)).kept g3);have BYc:=hide ((Box.new 30 (w2.alloc (.cells #[.string ⟨#[]⟩,.bool false,.slice none 0 0,.int .i64 0] 36)) (.int .i64 0) (.slice none 0 0)).kept g3)));have G3:=GN;obtain⟨l1,l2,l3,l4⟩:=unhide CK _ (unhide G3);have e4:=World.new_ne w3 _ l1;have e5:=World.new_ne w3 _ l3;have e4p:=World.new_ne (w3.alloc (.cells #[.int .i64 0,.slice none 0 0] 30)) _ ((World.grownBy_alloc w3 (.cells #[.int .i64 0,.slice none 0 0] 30) none).cell l1 (fun e=>by cases e));rw [World.size_alloc] at e4p;have e5p:=World.new_ne (w3.alloc (.cells #[.int .i64 0,.slice none 0 0] 30)) _ ((World.grownBy_alloc w3 (.cells #[.int .i64 0,.slice none 0 0] 30) none).cell l3 (fun e=>by cases e));rw [World.size_alloc] at e5p;(try (have BYc:=hide ((unhide BXc).kept (unhide G23))));(try (have BYk:=hide ((unhide BXk).kept (unhide G23))));(try simp only [World.size_alloc] at P3);(try simp only [World.size_alloc] at BYc);(try simp only [World.size_alloc] at BYk);(try (have mc1:=Nat.ne_of_lt (unhide BYc).lt));(try (have mc2:=Nat.ne_of_gt (unhide BYc).lt));(try (have mk1:=Nat.ne_of_lt (unhide BYk).lt));(try (have mk2:=Nat.ne_of_gt (unhide BYk).lt));(try (have c0:=(unhide BYc).c0));(try (have c1:=(unhide BYc).c1));(try (have cf0:=(unhide BYc).f 0));(try (have cf1:=(unhide BYc).f 1));(try (have d0:=(unhide BYk).c0));(try (have d1:=(unhide BYk).c1));(try (have d2:=(unhide BYk).c2));(try (have d3:=(unhide BYk).c3));(try (have df0:=(unhide BYk).f 0));(try (have df1:=(unhide BYk).f 1));(try (have df2:=(unhide BYk).f 2));(try (have df3:=(unhide BYk).f 3));(try (have c0':=((unhide BYc).kept (World.grownBy_alloc w3 (.cells #[.string ⟨#[]⟩,.bool false,.slice none 0 0,.int .i64 0] 36) none)).c0));(try (have c1':=((unhide BYc).kept (World.grownBy_alloc w3 (.cells #[.string ⟨#[]⟩,.bool false,.slice none 0 0,.int .i64 0] 36) none)).c1));(try (have cf0':=((unhide BYc).kept (World.grownBy_alloc w3 (.cells #[.string ⟨#[]⟩,.bool false,.slice none 0 0,.int .i64 0] 36) none)).f 0));(try (have cf1':=((unhide BYc).kept (World.grownBy_alloc w3 (.cells #[.string ⟨#[]⟩,.bool false,.slice none 0 0,.int .i64 0] 36) none)).f 1));(try (have d0':=((unhide BYk).kept (World.grownBy_alloc w3 (.cells #[.int .i64 0,.slice none 0 0] 30) none)).c0));(try (have d1':=((unhide BYk).kept (World.grownBy_alloc w3 (.cells #[.int .i64 0,.slice none 0 0] 30) none)).c1));(try (have d2':=((unhide BYk).kept (World.grownBy_alloc w3 (.cells #[.int .i64 0,.slice none 0 0] 30) none)).c2));(try (have d3':=((unhide BYk).kept (World.grownBy_alloc w3 (.cells #[.int .i64 0,.slice none 0 0] 30) none)).c3));(try (have df0':=((unhide BYk).kept (World.grownBy_alloc w3 (.cells #[.int .i64 0,.slice none 0 0] 30) none)).f 0));(try (have df1':=((unhide BYk).kept (World.grownBy_alloc w3 (.cells #[.int .i64 0,.slice none 0 0] 30) none)).f 1));(try (have df2':=((unhide BYk).kept (World.grownBy_alloc w3 (.cells #[.int .i64 0,.slice none 0 0] 30) none)).f 2));(try (have df3':=((unhide BYk).kept (World.grownBy_alloc w3 (.cells #[.int .i64 0,.slice none 0 0] 30) none)).f 3));(try (have d0'':=((unhide BYk).kept (World.grownBy_alloc w3 (.cells #[.int .i64 room,.slice ua3 nL uc3] 30) none)).c0));(try (have d1'':=((unhide BYk).kept (World.grownBy_alloc w3 (.cells #[.int .i64 room,.slice ua3 nL uc3] 30) none)).c1));(try (have d2'':=((unhide BYk).kept (World.grownBy_alloc w3 (.cells #[.int .i64 room,.slice ua3 nL uc3] 30) none)).c2));(try (have d3'':=((unhide BYk).kept (World.grownBy_alloc w3 (.cells #[.int .i64 room,.slice ua3 nL uc3] 30) none)).c3));(try (have df0'':=((unhide BYk).kept (World.grownBy_alloc w3 (.cells #[.int .i64 room,.slice ua3 nL uc3] 30) none)).f 0));(try (have df1'':=((unhide BYk).kept (World.grownBy_alloc w3 (.cells #[.int .i64 room,.slice ua3 nL uc3] 30) none)).f 1));(try (have df2'':=((unhide BYk).kept (World.grownBy_alloc w3 (.cells #[.int .i64 room,.slice ua3 nL uc3] 30) none)).f 2));(try (have df3'':=((unhide BYk).kept (World.grownBy_alloc w3 (.cells #[.int .i64 room,.slice ua3 nL uc3] 30) none)).f 3));(try (have ec:=World.new_ne w3 _ c0));(try (have ed:=World.new_ne w3 _ d0));have x3:=((unhide HI).kept (unhide G3)).f.lt;have x3a:¬ w.heap.size=w3.heap.size+1:=(by have:=x3;omega);have x3b:¬ w.heap.size+1=w3.heap.size+1:=(by have:=x3;omega);have x3c:¬ w.heap.size=w3.heap.size:=(by have:=x3;omega);have x3d:¬ w.heap.size+1=w3.heap.size:=(by have:=x3;omega);clear GN G23 g3))
  all_goals
   go_wp2_with fail
   go_meet
   refine⟨rfl,?_⟩
   change Cc PP W1 _ _ _ _ _ _ _
   have q1:=(unhide G2).size
   have q2:=(unhide G3).size
   (try (have q3:=(unhide BXc).lt))
   (try (have q4:=(unhide BXk).lt))
   (try (have q5:=(unhide BYc).lt))
   (try (have q6:=(unhide BYk).lt))
   first
    | (with_reducible refine cc_ck (unhide HCL) (unhide P3) (unhide G3) ?_ (Nat.le_refl _);omega)
    | (with_reducible refine cc_kc (unhide HCL) (unhide P3) (unhide G3) ?_ (Nat.le_refl _);omega)
    | (with_reducible refine cc_set (unhide HCL) (unhide BYc) (unhide BYk) (unhide P3) (unhide G3) ?_ (Nat.le_refl _) (.inl ?_) (.inl ?_) ?_ ?_ ?_ <;> omega)
    | (with_reducible refine cc_cn (unhide HCL) (unhide BYc) (unhide P3) (unhide G3) ?_ (Nat.le_refl _) (.inl ?_) ?_ <;> omega)
    | (with_reducible refine cc_nk (unhide HCL) (unhide BYk) (unhide P3) (unhide G3) ?_ (Nat.le_refl _) (.inl ?_) ?_ <;> omega)
 case rest =>
  obtain⟨rfl,hcc⟩:=hcut
  obtain⟨c,k,y,z,lo,hi,rfl,rfl,BC,BK,hp,gx,hc1,hk1,hlo,hhi,cl⟩:=unhide hcc
  clear hcc cl HCL CF CD CK b0 b1 f0 f1 x1a x1b x1c x1d e0 e1 e0p e1p
  have sI:=(unhide HI).s
  have sX:=gx.size
  have II:=hide ((unhide HI).kept gx)
  have GX:=hide gx
  cases b
  ·have hb:fndB room KK (dgA n LL)=false:=by rw [←unhide HS];exact (unhide HB).symm
   have f0:=(unhide II).f.c0
   have f1:=(unhide II).f.c1
   have HBK:=hide BK
   have HBB:=hide hb
   clear BC BK hp gx hb HQ HL HB HPP
   go_wp2_with fail
   refine (unhide CA' _ (unhide GX)).mono ?_;rintro e w4 ⟨u4,rfl,o4,g4⟩
   obtain⟨a4,c4,rfl,hx4⟩:=o4.sl
   have BK4:=(unhide HBK).kept g4
   have k0:=BK4.c0
   have k1:=BK4.c1
   have k2:=BK4.c2
   have k3:=BK4.c3
   have kf0:=BK4.f 0
   have kf1:=BK4.f 1
   have kf2:=BK4.f 2
   have kf3:=BK4.f 3
   have G4:=grown_trans (r:=none) (unhide GX) g4
   have z4:=g4.size
   clear hx4 f0 f1 CA' HBK II
   obtain⟨W5,hW5⟩:∃ W5,W5=(((w4.setCell ⟨k,0,none⟩ (.string adg)).setCell ⟨k,1,none⟩ (.bool asat)).setCell ⟨k,2,none⟩ (.slice a4 avals.length c4)).setCell ⟨k,3,none⟩ (.int .i64 acost):=⟨_,rfl⟩
   have B5:Box4 36 W5 k (.string adg) (.bool asat) (.slice a4 avals.length c4) (.int .i64 acost):=by rw [hW5];exact BK4.setA _ _ _ _
   have G5:W1.grownBy W5 none:=by rw [hW5];exact yb.grown_setA G4 hk1
   have V5:Vl W5 (.slice a4 avals.length c4) avals:=by
    rw [hW5]
    have o:=fun (W:World) i x=>outs_one W k i x
    have v0:Vl w4 (.slice a4 avals.length c4) avals:=⟨_,_,o4⟩
    have K0:=BK4
    have K1:=K0.set0 (.string adg)
    have K2:=K1.set1 (.bool asat)
    have K3:=K2.set2 (.slice a4 avals.length c4)
    exact (((v0.outs (o _ _ _) (kind_one K0 int_ne.2)).outs (o _ _ _) (kind_one K1 int_ne.2)).outs (o _ _ _) (kind_one K2 int_ne.2)).outs (o _ _ _) (kind_one K3 int_ne.2)
   have HB5:=hide B5
   have HV5:=hide V5
   have HG5:=hide G5
   go_upto_region 5 with fail
   rw [←hW5]
   clear hW5 k0 k1 k2 k3 kf0 kf1 kf2 kf3 BK4 G4 o4 g4 B5 V5 G5
   have no:(ab && ok)=false→Hid (lkK room KK n LL=kz∧lkL room KK n LL=KK∧lkB room KK n LL=false):=by
    intro h
    have h':(askB n LL && okC room KK)=false:=by rw [←unhide HAB,←unhide HOK];exact h
    show _∧_∧_
    unfold lkK lkL lkB
    rw [unhide HBB,h']
    exact⟨rfl,rfl,rfl⟩
   have NO:=hide no
   clear no
   cases ab
   ·have HN:=unhide NO rfl
    have i0:=((unhide HI).kept (unhide HG5)).b.c0
    have i1:=((unhide HI).kept (unhide HG5)).b.c1
    clear CO' CP'
    go_wp2_with fail
    refine (unhide CY' _ (unhide HG5)).mono ?_;rintro e w6 ⟨u6,rfl,o6,g6⟩
    obtain⟨a6,c6,rfl⟩:=o6.len
    have HI6:=hide ((unhide HI).kept (grown_trans (r:=none) (unhide HG5) g6))
    have G6:=hide (grown_trans (r:=none) (unhide HG5) g6)
    have O6:=hide o6
    have z6:=(unhide HG5).size
    have z6b:=g6.size
    clear o6 g6
    have r0:=(unhide HI6).r.c0
    have r1:=(unhide HI6).r.c1
    have rf0:=(unhide HI6).r.f 0
    have rf1:=(unhide HI6).r.f 1
    have q0:=(unhide HI6).q.c0
    have q1:=(unhide HI6).q.c1
    have q2:=(unhide HI6).q.c2
    have q3:=(unhide HI6).q.c3
    have qf0:=(unhide HI6).q.f 0
    have qf1:=(unhide HI6).q.f 1
    have qf2:=(unhide HI6).q.f 2
    have qf3:=(unhide HI6).q.f 3
    go_wp2_with fail
    (try simp only [Exit.inBlock,Exit.then])
    obtain⟨RR,QQ,gO,sz⟩:=ua.put6 (unhide HI6).r (unhide HI6).q (.int .i64 room) (.slice a6 KK.length c6) (.string ⟨#[]⟩) (.bool false) (.slice none 0 0) (.int .i64 0)
    obtain⟨hk0,hl0,hb0⟩:=unhide HN
    refine bodyPost_ret (ua.ret_find rfl rfl rfl RR QQ) rfl ?_
    rw [hk0,hl0,hb0]
    exact⟨_,_,rfl,⟨0,0,own_none _ _ _⟩,((unhide O6).rwk.outs gO (by omega) (ua.kinds2 (unhide HI6).r (unhide HI6).q)).sub (by omega),ua.grown_outs (grown_trans (unhide HI).g (unhide G6)) gO (by omega)⟩
   ·have i0:=((unhide HI).kept (unhide HG5)).b.c0
    have i1:=((unhide HI).kept (unhide HG5)).b.c1
    go_wp2_with fail
    refine (unhide CO' _ (unhide HG5)).mono ?_;rintro e w5 ⟨rfl,g5⟩
    have G5:=hide (grown_trans (r:=none) (unhide HG5) g5)
    have B5':=hide ((unhide HB5).kept g5)
    have V5':=hide ((unhide HV5).kept g5)
    clear i0 i1 g5
    have i0:=((unhide HI).kept (unhide G5)).b.c0
    have i1:=((unhide HI).kept (unhide G5)).b.c1
    cases ok
    ·have HN:=unhide NO rfl
     clear CO' CP'
     go_wp2_with fail
     refine (unhide CY' _ (unhide G5)).mono ?_;rintro e w6 ⟨u6,rfl,o6,g6⟩
     obtain⟨a6,c6,rfl⟩:=o6.len
     have HI6:=hide ((unhide HI).kept (grown_trans (r:=none) (unhide G5) g6))
     have G6:=hide (grown_trans (r:=none) (unhide G5) g6)
     have O6:=hide o6
     have z6:=(unhide G5).size
     have z6b:=g6.size
     clear o6 g6
     have r0:=(unhide HI6).r.c0
     have r1:=(unhide HI6).r.c1
     have rf0:=(unhide HI6).r.f 0
     have rf1:=(unhide HI6).r.f 1
     have q0:=(unhide HI6).q.c0
     have q1:=(unhide HI6).q.c1
     have q2:=(unhide HI6).q.c2
     have q3:=(unhide HI6).q.c3
     have qf0:=(unhide HI6).q.f 0
     have qf1:=(unhide HI6).q.f 1
     have qf2:=(unhide HI6).q.f 2
     have qf3:=(unhide HI6).q.f 3
     go_wp2_with fail
     (try simp only [Exit.inBlock,Exit.then])
     obtain⟨RR,QQ,gO,sz⟩:=ua.put6 (unhide HI6).r (unhide HI6).q (.int .i64 room) (.slice a6 KK.length c6) (.string ⟨#[]⟩) (.bool false) (.slice none 0 0) (.int .i64 0)
     obtain⟨hk0,hl0,hb0⟩:=unhide HN
     refine bodyPost_ret (ua.ret_find rfl rfl rfl RR QQ) rfl ?_
     rw [hk0,hl0,hb0]
     exact⟨_,_,rfl,⟨0,0,own_none _ _ _⟩,((unhide O6).rwk.outs gO (by omega) (ua.kinds2 (unhide HI6).r (unhide HI6).q)).sub (by omega),ua.grown_outs (grown_trans (unhide HI).g (unhide G6)) gO (by omega)⟩
    ·have h':(askB n LL && okC room KK)=true:=by rw [←unhide HAB,←unhide HOK];rfl
     have HY:Hid (lkK room KK n LL=⟨adg,asat,avals,acost⟩∧lkL room KK n LL=putK room KK ⟨adg,asat,avals,acost⟩∧lkB room KK n LL=true):=by
      show _∧_∧_
      unfold lkK lkL lkB
      rw [unhide HBB,h',unhide HAK]
      exact⟨rfl,rfl,rfl⟩
     clear h' CO' CY' NO
     have gd:=cf.grown_drew w5 none
     have C7:=hide (unhide CP' _ w5.drew (grown_trans (r:=none) (unhide G5) gd) ((unhide V5').kept gd))
     have G6:=hide (grown_trans (r:=none) (unhide G5) gd)
     have B6:=hide ((unhide B5').kept gd)
     have V6:=hide ((unhide V5').kept gd)
     have k0:=(unhide B5').c0
     have k1:=(unhide B5').c1
     have k2:=(unhide B5').c2
     have k3:=(unhide B5').c3
     clear gd CP'
     go_wp2_with fail
     go_region_with (first
      | (go_at_call 43;refine (unhide C7).mono ?_;rintro e w7 ⟨u7,l7,rfl,r7,g7,hl7⟩;obtain⟨ua7,uc7,rfl⟩:=r7.len;have I7:=hide ((unhide HI).kept (grown_trans (r:=none) (unhide G6) g7));have B7:=hide ((unhide B6).kept g7);have V7:=hide ((unhide V6).kept g7);have R7:=hide (And.intro r7 hl7);have G7:=hide (grown_trans (r:=none) (unhide G6) g7);have d0:=(unhide B7).c0;have d1:=(unhide B7).c1;have d2:=(unhide B7).c2;have d3:=(unhide B7).c3;have r0:=(unhide I7).r.c0;have r1:=(unhide I7).r.c1;have rf0:=(unhide I7).r.f 0;have rf1:=(unhide I7).r.f 1;have q0:=(unhide I7).q.c0;have q1:=(unhide I7).q.c1;have q2:=(unhide I7).q.c2;have q3:=(unhide I7).q.c3;have qf0:=(unhide I7).q.f 0;have qf1:=(unhide I7).q.f 1;have qf2:=(unhide I7).q.f 2;have qf3:=(unhide I7).q.f 3;have n1:¬ k=w.heap.size+1+1:=(by omega);have n2:¬ w.heap.size+1+1=k:=(by omega);clear r7 g7 hl7))
     all_goals
      go_wp2_with fail
      (try simp only [Exit.inBlock,Exit.then])
      obtain⟨RR,QQ,gO,sz⟩:=ua.put6 (unhide I7).r (unhide I7).q (.int .i64 room) (.slice ua7 (putK room KK ⟨adg,asat,avals,acost⟩).length uc7) (.string adg) (.bool asat) (.slice a4 avals.length c4) (.int .i64 acost)
      obtain⟨hk0,hl0,hb0⟩:=unhide HY
      refine bodyPost_ret (ua.ret_find rfl rfl rfl RR QQ) rfl ?_
      rw [hk0,hl0,hb0]
      exact⟨_,_,rfl,(unhide V7).outs gO (ua.kinds2 (unhide I7).r (unhide I7).q),((unhide R7).1.outs gO (by have:=(unhide R7).2;have:=(unhide G6).size;omega) (ua.kinds2 (unhide I7).r (unhide I7).q)).sub (by have:=(unhide R7).2;have:=(unhide G6).size;omega),ua.grown_outs (grown_trans (unhide HI).g (unhide G7)) gO (by omega)⟩
  ·have hb:fndB room KK (dgA n LL)=true:=by rw [←unhide HS];exact (unhide HB).symm
   have HY:Hid (lkK room KK n LL=⟨dg,sat,vals,cost⟩∧lkL room KK n LL=L∧lkB room KK n LL=true):=by
    show _∧_∧_
    unfold lkK lkL lkB
    rw [hb,unhide HQ,unhide HL,unhide HS]
    exact⟨rfl,rfl,rfl⟩
   have hp1:PS L vals lo hi wc y z:=by rw [←unhide HPP];exact hp
   obtain⟨hR,hbk,hV⟩:=hp1
   obtain⟨ya,yc,rfl⟩:=hR.len
   obtain⟨za,zc,rfl,hz⟩:=hV.sl
   have HR:=hide hR
   have HV:=hide hV
   have c0:=BC.c0
   have c1:=BC.c1
   have k0:=BK.c0
   have k1:=BK.c1
   have k2:=BK.c2
   have k3:=BK.c3
   have HI6:=II
   have r0:=(unhide HI6).r.c0
   have r1:=(unhide HI6).r.c1
   have rf0:=(unhide HI6).r.f 0
   have rf1:=(unhide HI6).r.f 1
   have q0:=(unhide HI6).q.c0
   have q1:=(unhide HI6).q.c1
   have q2:=(unhide HI6).q.c2
   have q3:=(unhide HI6).q.c3
   have qf0:=(unhide HI6).q.f 0
   have qf1:=(unhide HI6).q.f 1
   have qf2:=(unhide HI6).q.f 2
   have qf3:=(unhide HI6).q.f 3
   have n3:¬ c=w.heap.size+1+1:=by omega
   have n4:¬ w.heap.size+1+1=c:=by omega
   have n5:¬ c=w.heap.size+1+1+1:=by omega
   have n6:¬ w.heap.size+1+1+1=c:=by omega
   have n7:¬ k=w.heap.size+1+1+1:=by omega
   have n8:¬ w.heap.size+1+1+1=k:=by omega
   have n1:¬ k=w.heap.size+1+1:=by omega
   have n2:¬ w.heap.size+1+1=k:=by omega
   clear hR hbk hV hz BC BK hp hb HQ HL HB HPP CA' CO' CP' CY' HAK HAB HOK
   go_wp2_with fail
   go_region_held3 (fun w'=>w'.cell? ⟨c,0,none⟩=some (.int .i64 room)∧w'.cell? ⟨c,1,none⟩=some (.slice ya L.length yc)∧w'.cell? ⟨k,0,none⟩=some (.string dg)∧w'.cell? ⟨k,1,none⟩=some (.bool sat)∧w'.cell? ⟨k,2,none⟩=some (.slice za vals.length zc)∧w'.cell? ⟨k,3,none⟩=some (.int .i64 cost)) (go_keep) (fail)
   all_goals
    go_wp2_with fail
    (try simp only [Exit.inBlock,Exit.then])
    obtain⟨RR,QQ,gO,sz⟩:=ua.put6 (unhide HI6).r (unhide HI6).q (.int .i64 room) (.slice ya L.length yc) (.string dg) (.bool sat) (.slice za vals.length zc) (.int .i64 cost)
    obtain⟨hk0,hl0,hb0⟩:=unhide HY
    refine bodyPost_ret (ua.ret_find rfl rfl rfl (RR.kept (cf.grown_drew _ none)) (QQ.kept (cf.grown_drew _ none))) rfl ?_
    rw [hk0,hl0,hb0]
    exact⟨_,_,rfl,((unhide HV).outs gO (ua.kinds2 (unhide HI6).r (unhide HI6).q)).kept (cf.grown_drew _ none),(((unhide HR).outs gO (by omega) (ua.kinds2 (unhide HI6).r (unhide HI6).q)).sub (by omega)).kept (cf.grown_drew _ none),grown_trans (ua.grown_outs (grown_trans (unhide HI).g (unhide GX)) gO (by omega)) (cf.grown_drew _ none)⟩
end Go.Proofs.YtnlllcgcaddhmaaGreatDoor.an
