/- What Clash (of the program and of its model) answers at every list of at most 2^20 numbers; no other condition. -/
import Derived.Test.YtddmmoehlabkiaaGreatDoorJXFm
namespace Go.Proofs.YtddmmoehlabkiaaGreatDoor
set_option linter.unusedVariables false
open Go.ChangeShapes Go.WideShapes Go.ChangeAt Go.RowKit
open sl (qH qU qT)
namespace fc
open lits (okB okB_iff)
open sl (Sl ret_bool)
open cls (hasB)
open fm (clashB)
theorem specClash (v:Value)(L:List Int)(w:World)(hL:L.length<=1048576)(hv:Sl w v L) :
  Calls Tryz.prog 95 #[v] w fun e w'=>e=.returned (.bool (clashB L))/\w'=w:=by
 have CH:=qH (fun x=>cls.specClauseHas v L x w hL hv);obtain⟨a,cap,rfl,ha⟩:=hv;have HA:=qH ha;clear ha;go_enter Tryz.func95,Tryz.ntmps95;go_wp2;go_loop [3] (fun i=>∃ k:Nat,k<=L.length/\i=.int .i64 k/\Hid ((L.take k).any (fun x=>okB x && hasB L (-x))=false)) (fun i=>L.length - (intOf i).toNat)
 case atStart=>exact⟨0,Nat.zero_le _,rfl,by show _=_;simp⟩
 case round =>
  obtain⟨k,hk,rfl,hall⟩:=hrel;by_cases hlt:k<L.length
  ·rcases qU HA with h | ⟨b,off,rfl,hb,hcb⟩
   ·rw [h] at hlt;simp at hlt
   ·have c1:=hcb k hlt;have hi':(k:Int)<(L.length:Int):=by omega
    have h1:=tr.any_hit (fun x=>okB x && hasB L (-x)) L k 0 hlt;have h2:=tr.any_step (fun x=>okB x && hasB L (-x)) L k 0 hlt (qU hall);generalize L.getD k 0=x at *;have cx:=lits.specLitOk x;have ch:=qU CH (-x);cases hx:okB x
    ·rw [hx] at cx;have CX:=qH cx;have H:=qH (h2 (by show (okB x && _)=_;rw [hx];rfl));clear cx ch h1 h2 hx hcb HA hall CH;go_wp2_with (go_at_call 118;refine (qU CX _).mono ?_;rintro e w' ⟨rfl,rfl⟩)
     go_round
     case rel=>exact⟨k+1,by omega,by go_num,H⟩
     case measure=>simp [intOf];omega
    ·rw [hx] at cx;have CX:=qH cx;have hbd:=okB_iff.1 hx;obtain⟨b0,b1,b2⟩:=hbd;cases hh:hasB L (-x)
     ·rw [hh] at ch;have C2:=qH ch;have H:=qH (h2 (by show (okB x && hasB L (-x))=_;rw [hx,hh];rfl));clear cx ch h1 h2 hx hh hcb HA hall CH;go_wp2_with (first | (go_at_call 118;refine (qU CX _).mono ?_;rintro e w' ⟨rfl,rfl⟩) | (go_at_call 139;refine (qU C2).mono ?_;rintro e w' ⟨rfl,rfl⟩))
      go_round
      case rel=>exact⟨k+1,by omega,by go_num,H⟩
      case measure=>simp [intOf];omega
     ·rw [hh] at ch;have C2:=qH ch;have H:=qH (h1 (by show (okB x && hasB L (-x))=_;rw [hx,hh];rfl));clear cx ch h1 h2 hx hh hcb HA hall CH;go_wp2_with (first | (go_at_call 118;refine (qU CX _).mono ?_;rintro e w' ⟨rfl,rfl⟩) | (go_at_call 139;refine (qU C2).mono ?_;rintro e w' ⟨rfl,rfl⟩));go_ret;exact⟨ret_bool (qU H).symm,rfl⟩
  ·have hi':¬ (k:Int)<(L.length:Int):=by omega
   have HR:=qH (tr.any_end (fun x=>okB x && hasB L (-x)) L k hlt (qU hall));clear HA hall CH;go_wp2;go_ret;exact⟨ret_bool (qU HR).symm,rfl⟩
end fc
end Go.Proofs.YtddmmoehlabkiaaGreatDoor
