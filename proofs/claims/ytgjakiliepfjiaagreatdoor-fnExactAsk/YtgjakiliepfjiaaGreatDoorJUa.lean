/- Lists of what is known (a digest, a truth value, values, a cost) in memory, as the walks here speak of them; no condition. -/
import Derived.Test.YtgjakiliepfjiaaGreatDoorJOn
import Derived.Test.YtgjakiliepfjiaaGreatDoorJXYb
import Derived.Deep.RegionHeld3
import Derived.Deep.DeepCutAuto
import Derived.Laws.IdiomStrings
import Derived.Laws.NewBlocks
namespace Go.Proofs.YtgjakiliepfjiaaGreatDoor.ua
open Go.ChangeShapes Go.WideShapes Go.ChangeAt Go.RowKit
open sl (Sl Own ints marks hide unhide ret_int ret_bool grown_refl grown_trans grown_drewN below_of of_below)
open css (Outs outs_trans outs_none outs_by outs_refl own_mono own_sub own_outs own_kind)
set_option linter.unusedVariables false
structure Kn where
 dg : ByteArray
 sat : Bool
 vals : List Int
 cost : Int
def kz : Kn := ⟨⟨#[]⟩, false, [], 0⟩
theorem sizeK : (Tryz.prog.info? 36).map (·.size) = some 4 := by kernel_rfl
theorem ret_known2 {fn : Func} {p u : Tmp} {tmps : Array Value} {w : World} {c : Nat} {a b q x : Value} (h : fn.results = #[.cell p 36, .tmp u]) (hp : tmps.getD p undef = .pointer (some ⟨c, 0, none⟩)) (hb : yb.Box4 36 w c a b q x) :
  (results fn tmps).run Tryz.prog w = .ok (.tuple #[.agg #[a, b, q, x], tmps.getD u undef]) w := by
 rw [results_cell_tmp h, hp]
 simp only [asAddr, Sem.run_pure, Result.andThen_ok]
 rw [run_loadVar_row w c 36 36 #[a, b, q, x] (0, 0) _ hb Tryz.underlying36 rfl sizeK]
 rfl
end Go.Proofs.YtgjakiliepfjiaaGreatDoor.ua
namespace Go.Proofs.YtgjakiliepfjiaaGreatDoor.ua
open Go.ChangeShapes Go.WideShapes Go.ChangeAt Go.RowKit
open sl (Sl Own ints marks hide unhide ret_int ret_bool grown_refl grown_trans grown_drewN below_of of_below)
open css (Outs outs_trans outs_none outs_by outs_refl own_mono own_sub own_outs own_kind)
open yb (Box4)
set_option linter.unusedVariables false
theorem row_set {w : World} {lo n z c i : Nat} {t : TypeId} {v : Value} {xs : List Value} {u : Value} (h : w.ownsRow lo t z v n xs) (hc : c < lo) : (w.setCell ⟨c, i, none⟩ u).ownsRow lo t z v n xs := h.kept (sl.grown_setCell w c i u) (by
 cases e : v.ownBlock with
 | none => exact .inl rfl
 | some k => exact .inr (fun e' => by cases e'; have := (h.lt _ e).1; omega))
end Go.Proofs.YtgjakiliepfjiaaGreatDoor.ua
