/- What the law FnSubsume is told of Subsume, Units and Less at a formula that holds at most 2^20 values. -/
import Derived.Test.YtibpnocpafppaaaDoorJXEp
import Derived.Test.YtibpnocpafppaaaDoorJXHf
import Derived.Test.YtibpnocpafppaaaDoorJSq
namespace Go.Proofs.YtibpnocpafppaaaDoor.ep
open Go.ChangeShapes Go.WideShapes Go.ChangeAt Go.RowKit
open sl (Sl Own)
open css (Sls OwnS tot)
open ok (cnfB)
open tr (trueB cnfT)
open srt (Tab)
open cs (cnfS)
open cso (srtN srtR srtB)
open gm (sumL)
open hb (unL)
open ge (outN outR)
set_option linter.unusedVariables false
def Ans (N : Int) (b : Bool) (R : List (List Int)) (w : World) (e : Ending) (w' : World) : Prop := ∃ u, e = .returned (.tuple #[.agg #[.int .i64 N, u], .bool b]) ∧ OwnS w.heap.size w'.heap.size w' u R ∧ w.grownBy w' none
structure Told (n : Int) (LL : List (List Int)) (N : Int) (b : Bool) (R1 R2 R3 : List (List Int)) : Prop where
 t1 : tot R1 ≤ 1048576
 t2 : tot R2 ≤ 1048576
 t3 : tot R3 ≤ 1048576
 cs : ∀ v w, Sls w v LL → Calls Tryd.prog 12 #[.agg #[.int .i64 n, v]] w fun e w' => Ans N b R1 w e w'
 ci : ∀ v w, Tab w → Sls w v LL → Calls Tryd.prog 11 #[.agg #[.int .i64 n, v]] w fun e w' => Ans N b R1 w e w'
 us : ∀ v lo hi w, OwnS lo hi w v LL → hi ≤ w.heap.size → Calls Tryd.prog 14 #[.agg #[.int .i64 n, v]] w fun e w' => Ans N b R2 w e w'
 ui : ∀ v lo hi w, Tab w → OwnS lo hi w v LL → Calls Tryd.prog 13 #[.agg #[.int .i64 n, v]] w fun e w' => Ans N b R2 w e w'
 ls : ∀ v lo hi w, OwnS lo hi w v LL → hi ≤ w.heap.size → Calls Tryd.prog 16 #[.agg #[.int .i64 n, v]] w fun e w' => Ans N b R3 w e w'
 li : ∀ v lo hi w, Tab w → OwnS lo hi w v LL → Calls Tryd.prog 15 #[.agg #[.int .i64 n, v]] w fun e w' => Ans N b R3 w e w'
structure Right (n : Int) (LL : List (List Int)) (N : Int) (R1 R2 R3 : List (List Int)) (m : Nat) (S : List (List Int)) : Prop where
 nm : n = (m : Int)
 m24 : m ≤ 24
 ag : ∀ v w, Tab w → Sls w v R1 → Calls Tryd.prog 11 #[.agg #[.int .i64 N, v]] w fun e w' => Ans N true R1 w e w'
 so : ∀ v w, Tab w → Sls w v LL → Calls Tryd.prog 19 #[.agg #[.int .i64 n, v]] w fun e w' => Ans n true S w e w'
 le : R1.length ≤ S.length
 lt : S.length ≤ 120
 tr : ∀ A : List Int, A.length ≤ 1048576 → ∃ t : Bool,
  (∀ v u w, Sls w v LL → Sl w u A → Calls Tryd.prog 20 #[.agg #[.int .i64 n, v], u] w fun e w' => e = .returned (.bool t) ∧ w.grownBy w' none) ∧
  (∀ v u w, Sls w v R1 → Sl w u A → Calls Tryd.prog 20 #[.agg #[.int .i64 N, v], u] w fun e w' => e = .returned (.bool t) ∧ w.grownBy w' none) ∧
  (∀ v u w, Sls w v R2 → Sl w u A → Calls Tryd.prog 20 #[.agg #[.int .i64 N, v], u] w fun e w' => e = .returned (.bool t) ∧ w.grownBy w' none) ∧
  (∀ v u w, Sls w v R3 → Sl w u A → Calls Tryd.prog 20 #[.agg #[.int .i64 N, v], u] w fun e w' => e = .returned (.bool t) ∧ w.grownBy w' none)
theorem toldAll (n : Int) (LL : List (List Int)) (hn : tot LL ≤ 1048576) : ∃ N b R1 R2 R3, Told n LL N b R1 R2 R3 ∧ (b = true → ∃ m S, Right n LL N R1 R2 R3 m S) := by
 refine ⟨outN (cnfB n LL) n, cnfB n LL, outR (cnfB n LL) (sumL (cnfS LL)), outR (cnfB n LL) (unL LL), outR (cnfB n LL) (sumL (cnfS (unL LL))), ⟨gm.srt_tot2 LL n, hb.un_tot n LL, hb.less_tot n LL, fun v w hv => gm.specSubsume v n LL w hn hv, fun v w hT hv => gm.implSubsume v n LL w hT hn hv, fun v lo hi w h1 h2 => hb.specUnits v n LL lo hi w hn h2 h1, fun v lo hi w hT h1 => hb.implUnits v n LL lo hi w hT hn h1, fun v lo hi w h1 h2 => hb.specLess v n LL lo hi w h2 hn h1, fun v lo hi w hT h1 => hb.implLess v n LL lo hi w hT hn h1⟩, fun hcb => ?_⟩
 have ht1 := gm.srt_tot2 LL n
 have ht2 := hb.un_tot n LL
 have ht3 := hb.less_tot n LL
 have cf := fm.cnf_facts hcb
 obtain ⟨m, rfl⟩ := Int.eq_ofNat_of_zero_le cf.1
 have T := fun A => told (A := A) hcb
 obtain ⟨s1, s2, s3⟩ := cso.srt_yes hcb
 have hok := (T []).2.2.2.1
 have hid := (T []).2.2.2.2.1
 have hle := (T []).2.2.2.2.2
 rw [hcb] at ht1 ht2 ht3 ⊢
 refine ⟨m, cnfS LL, ⟨rfl, by omega, fun v w hT hv => ?_, fun v w hT hv => ?_, hle, ?_, fun A hA => ⟨trueB (m : Int) LL A, fun v u w h1 h2 => tr.implCnfTrue v u (m : Int) LL A w hn hA h1 h2, fun v u w h1 h2 => ?_, fun v u w h1 h2 => ?_, fun v u w h1 h2 => ?_⟩⟩⟩
 ·have q := gm.implSubsume v (m : Int) (sumL (cnfS LL)) w hT ht1 hv
  rw [hok, hid] at q
  exact q
 ·have q := cso.implCnfSort v (m : Int) LL w hT hn hv
  rw [s1, s2, s3] at q
  exact q
 ·exact Nat.le_trans (cs.cnfS_len LL) cf.2.2.1
 ·have q := tr.implCnfTrue v u (m : Int) (sumL (cnfS LL)) A w ht1 hA h1 h2
  rw [(T A).1] at q
  exact q
 ·have q := tr.implCnfTrue v u (m : Int) (unL LL) A w ht2 hA h1 h2
  rw [(T A).2.1] at q
  exact q
 ·have q := tr.implCnfTrue v u (m : Int) (sumL (cnfS (unL LL))) A w ht3 hA h1 h2
  rw [(T A).2.2.1] at q
  exact q
end Go.Proofs.YtibpnocpafppaaaDoor.ep
