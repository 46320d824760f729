/- What the law FnEliminate is told of Eliminate, Project and CountTrue at a formula that holds at most 2^20 values. -/
import Derived.Test.YtibpnocpafppaaaDoorJXEt
import Derived.Test.YtibpnocpafppaaaDoorJLg
import Derived.Test.YtibpnocpafppaaaDoorJXJf
import Derived.Test.YtibpnocpafppaaaDoorJXJe
import Derived.Test.YtibpnocpafppaaaDoorJXCu
namespace Go.Proofs.YtibpnocpafppaaaDoor.et
open Go.ChangeShapes Go.WideShapes Go.ChangeAt Go.RowKit
open sl (Sl Own)
open css (Sls OwnS tot)
open srt (Tab)
open el (elN elB elR)
set_option linter.unusedVariables false
def Ans (N : Int) (b : Bool) (R : List (List Int)) (w : World) (e : Ending) (w' : World) : Prop := ∃ u, e = .returned (.tuple #[.agg #[.int .i64 N, u], .bool b]) ∧ OwnS w.heap.size w'.heap.size w' u R ∧ w.grownBy w' none
structure Told (n x : Int) (LL : List (List Int)) (N : Int) (b : Bool) (R : List (List Int)) (P : Int) : Prop where
 t : tot R ≤ 1048576
 cs : ∀ v w, Sls w v LL → Calls Tryd.prog 23 #[.agg #[.int .i64 n, v], .int .i64 x] w fun e w' => Ans N b R w e w'
 ci : ∀ v w, Tab w → Sls w v LL → Calls Tryd.prog 22 #[.agg #[.int .i64 n, v], .int .i64 x] w fun e w' => Ans N b R w e w'
 ps : ∀ v w, Sls w v LL → Calls Tryd.prog 25 #[.agg #[.int .i64 n, v], .int .i64 x] w fun e w' => e = .returned (.int .i64 P) ∧ w.grownBy w' none
 pi : ∀ v w, Sls w v LL → Calls Tryd.prog 24 #[.agg #[.int .i64 n, v], .int .i64 x] w fun e w' => e = .returned (.int .i64 P) ∧ w.grownBy w' none
 no : b = false → N = 0
structure Few (x N : Int) (R : List (List Int)) (P : Int) : Prop where
 fr : ∀ c ∈ R, x ∉ c ∧ -x ∉ c
 lo : 0 ≤ P
 hi : P ≤ 16384
 cn : ∀ v w, Sls w v R → Calls Tryd.prog 27 #[.agg #[.int .i64 N, v]] w fun e w' => e = .returned (.int .i64 (2 * P)) ∧ w.grownBy w' none
theorem toldAll (n x : Int) (LL : List (List Int)) (hn : tot LL ≤ 1048576) : ∃ N b R P, Told n x LL N b R P ∧ (b = true → n ≤ 10 → Few x N R P) := by
 refine ⟨elN n x LL, elB n x LL, elR n x LL, jd.projI n x LL, ⟨el.el_tot n x LL, fun v w hv => el.specEliminate v n x LL w hn hv, fun v w hT hv => el.implEliminate v n x LL w hT hn hv, fun v w hv => jf.specProject v n x LL w hn hv, fun v w hv => je.implProject v n x LL w hn hv, fun h => told_zero h⟩, fun h h10 => ?_⟩
 have T := told h (by omega : n ≤ 14)
 refine ⟨fun c hc => told_no h hc, T.2.1, T.2.2, fun v w hv => ?_⟩
 have q := cu.implCountTrue v (elN n x LL) (elR n x LL) w (el.el_tot n x LL) hv
 rw [T.1] at q
 exact q
end Go.Proofs.YtibpnocpafppaaaDoor.et
