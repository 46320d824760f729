/- The laws' own functions on lists of numbers (eqIntS, markIntS, heldIntS) and the model's ClauseHas, at lists of at most 2^21 numbers; no other condition. -/
import Derived.Test.YtddmmoehlabkiaaGreatDoorJOc
namespace Go.Proofs.YtddmmoehlabkiaaGreatDoor
set_option linter.unusedVariables false
open Go.ChangeShapes Go.WideShapes Go.ChangeAt Go.RowKit
namespace slw
open Go.Proofs.YtddmmoehlabkiaaGreatDoor.sl
open cls (hasB)
theorem specClauseHas (v:Value)(L:List Int)(x:Int)(w:World)(hL:L.length<=2097152)(hv:Sl w v L) :
  Calls Tryz.prog 139 #[v,.int .i64 x] w fun e w'=>e=.returned (.bool (hasB L x))/\w'=w:=by
 obtain⟨a,cap,rfl,ha⟩:=hv;have HA:=qH ha;clear ha;go_enter Tryz.func139,Tryz.ntmps139;go_wp2;go_loop [5] (fun i=>∃ k:Nat,k<=L.length/\i=.int .i64 k/\Hid (¬ x∈L.take k)) (fun i=>L.length - (intOf i).toNat)
 case atStart=>exact⟨0,Nat.zero_le _,rfl,by show ¬ _;simp⟩
 case round =>
  obtain⟨k,hk,rfl,hall⟩:=hrel;by_cases hlt:k<L.length
  ·rcases qU HA with h | ⟨b,off,rfl,hb,hcb⟩
   ·rw [h] at hlt;simp at hlt
   ·have c1:=hcb k hlt;have hi':(k:Int)<(L.length:Int):=by omega
    have h1:=cls.has_hit L k x hlt;have h2:=cls.has_step L k x hlt (qU hall);generalize L.getD k 0=y at *;by_cases hx:y=x
    ·have H:=qH (h1 hx);have hb':(y == x)=true:=by simpa using hx
     clear h1 h2 hx hcb HA;go_wp2;go_ret;exact⟨ret_bool (qU H).symm,rfl⟩
    ·have H:=qH (h2 hx);have hb':(y == x)=false:=by simpa using hx
     clear h1 h2 hx hcb HA;go_wp2
     go_round
     case rel=>exact⟨k+1,by omega,by go_num,H⟩
     case measure=>simp [intOf];omega
  ·have hi':¬ (k:Int)<(L.length:Int):=by omega
   have HR:=qH (cls.has_no L k x hlt (qU hall));clear HA;go_wp2;go_ret;exact⟨ret_bool (qU HR).symm,rfl⟩
end slw
end Go.Proofs.YtddmmoehlabkiaaGreatDoor
