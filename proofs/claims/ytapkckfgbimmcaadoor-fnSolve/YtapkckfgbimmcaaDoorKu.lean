/- What the solver's answers give back: the iterator over two new boxes. -/
import Derived.Test.YtapkckfgbimmcaaDoorKt
namespace Go.Proofs.YtapkckfgbimmcaaDoor.ks
open Go.RowKit Go.Shelf
set_option linter.unusedVariables false
theorem answers (c u : Nat) (w : World) : Calls Tryd.prog 96 #[.pointer (some ⟨c, 0, none⟩), .int .u64 (u : Int)] w fun e w' =>
    e = .returned (.func (.func 108) #[] #[.pointer (some ⟨w.heap.size, 0, none⟩), .pointer (some ⟨w.heap.size + 1, 0, none⟩)]) ∧
      w' = (w.alloc (.cells #[.pointer (some ⟨c, 0, none⟩)] 61)).alloc (.cells #[.int .u64 (u : Int)] 59) := by
  go_enter Tryd.func96, Tryd.ntmps96
  go_wp2_with fail
  go_ret
  exact ⟨rfl, by rfl⟩
end Go.Proofs.YtapkckfgbimmcaaDoor.ks
