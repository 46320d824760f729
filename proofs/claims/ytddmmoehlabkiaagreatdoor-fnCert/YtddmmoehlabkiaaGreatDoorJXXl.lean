/- A plain bound on what the model's walk tells; no condition. -/
import Derived.Test.YtddmmoehlabkiaaGreatDoorJOh
namespace Go.Proofs.YtddmmoehlabkiaaGreatDoor
set_option linter.unusedVariables false
open Go.ChangeShapes Go.WideShapes Go.ChangeAt Go.RowKit
namespace xw
open ok (cnfB)
open css (tot)
theorem wlk_in (n:Int)(LL:List (List Int)):∀ (j m:Nat) (d:List Int),m<j->∀ L∈(wlk n LL m d).1,L.length<=d.length+m:=by
 intro j
 induction j with
 | zero=>intro m d h;omega
 | succ j ih =>
  intro m d hm L hL;cases m with
  | zero=>rw [wlk_zero] at hL;cases hL
  | succ m =>
   rw [wlk] at hL
   split at hL
   ·rw [List.mem_singleton] at hL;rw [hL];unfold sp.negL;rw [List.length_map];omega
   ·split at hL
    ·cases hL
    ·rename_i x r _
     have len1:∀ y:Int,(d++[y]).length=d.length+1:=fun y=>by rw [List.length_append];rfl
     split at hL
     ·cases hL
     ·split at hL
      ·cases hL
      ·rcases List.mem_append.1 hL with q | q
       ·rcases List.mem_append.1 q with q | q
        ·have:=ih m (d++[-x]) (by omega) L q;rw [len1] at this;omega
        ·have:=ih (m - (wlk n LL m (d++[-x])).1.length) (d++[x]) (by omega) L q;rw [len1] at this;omega
       ·rw [List.mem_singleton] at q;rw [q];unfold sp.negL;rw [List.length_map];omega
theorem sum_bd {k:Nat}:∀ {C:List (List Int)},(∀ L∈C,L.length<=k)->(C.map List.length).sum<=k*C.length
 | [],_=>Nat.zero_le _
 | L::C,h=>by
  have h1:=h L List.mem_cons_self
  have h2:=sum_bd (C:=C) (fun M hM=>h M (List.mem_cons_of_mem _ hM))
  rw [List.map_cons,List.sum_cons,List.length_cons,Nat.mul_succ]
  omega
theorem wlk_bd (n:Int)(LL:List (List Int)):tot (if cnfB n LL then wlk n LL 700 [] else ([],false)).1<=500000:=by
 split
 ·have h1:=len_le n LL 700 [];have h2:=sum_bd (k:=700) (C:=(wlk n LL 700 []).1) (fun L hL=>by
   have:=wlk_in n LL 701 700 [] (by decide) L hL
   simpa using this)
  have h3:700*(wlk n LL 700 []).1.length<=700*700:=Nat.mul_le_mul_left _ h1;unfold css.tot;omega
 ·decide
end xw
end Go.Proofs.YtddmmoehlabkiaaGreatDoor
