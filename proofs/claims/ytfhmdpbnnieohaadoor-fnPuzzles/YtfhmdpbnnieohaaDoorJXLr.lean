/- What the model's l05From answers: the least assignment from a variable on, where some literals are taken; no condition but that the formula is one, and on the sizes. -/
import Derived.Test.YtfhmdpbnnieohaaDoorJXLq
import Derived.Deep.RegionLaw
import Derived.Deep.DeepCutAuto
namespace Go.Proofs.YtfhmdpbnnieohaaDoor.lq
open Go.ChangeShapes Go.WideShapes Go.ChangeAt Go.RowKit
open lits (okB varI okB_iff varI_yes)
open cls (hasB)
open css (Sls OwnS tot own_mono)
open cf (Box)
open ok (cnfB clB litIn)
open as_ (litAt)
open wo (Made)
open sl (Sl Own ints hide unhide ret_int ret_bool grown_refl grown_trans grown_drewN)
set_option linter.unusedVariables false
def FromE (w : World) (o : Option (List Int)) (e : Ending) (w' : World) : Prop := ∃ r, e = .returned (.tuple #[r, .bool o.isSome]) ∧ Made w w' r (o.getD [])
theorem made_sub {w w1 w2 : World} {v : Value} {L : List Int} (g : w.grownBy w1 none) (h : Made w1 w2 v L) : Made w w2 v L := ⟨own_mono h.1 g.size, grown_trans g h.2⟩
theorem lits_in {n : Int} {LL : List (List Int)} (h : cnfB n LL = true) : ∀ c ∈ LL, ∀ x ∈ c, litIn n x = true := by
 unfold ok.cnfB at h
 rw [Bool.and_eq_true, List.all_eq_true] at h
 intro c hc x hx
 have := h.2 c hc
 unfold ok.clB at this
 rw [Bool.and_eq_true, List.all_eq_true] at this
 exact this.1 x hx
end Go.Proofs.YtfhmdpbnnieohaaDoor.lq
