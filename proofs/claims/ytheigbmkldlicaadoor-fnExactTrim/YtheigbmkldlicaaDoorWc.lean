/- What closed and open of the program's watcher answer; no condition but that the clause is there and the words are below 2^48. -/
import Derived.Test.YtheigbmkldlicaaDoorWm
import Derived.Deep.QuietTactic
import Derived.BigQuiet
namespace Go.Proofs.YtheigbmkldlicaaDoor.wm
open Go.ChangeShapes Go.WideShapes Go.ChangeAt Go.RowKit
open Go.Proofs.YtheigbmkldlicaaDoor.sl (Sl Own ints hide unhide ret_int ret_bool grown_refl grown_trans grown_drewN)
open Go.Proofs.YtheigbmkldlicaaDoor.srt (oppN oppN_lt andN andN_eq and_eq)
set_option linter.unusedVariables false

set_option maxRecDepth 100000 in
set_option maxHeartbeats 2000000 in
theorem closed {w : World} {c i : Nat} {s : WS} (h : Wat w c s) (hi : i < s.K.length) (hl : s.K.length ≤ 1048576) (hS : (s.K.getD i zk).1 < 2 ^ 48) (hT : s.tk < 2 ^ 48) :
    Calls Tryd.prog 201 #[.pointer (some ⟨c, 0, none⟩), .int .i64 (i : Int)] w fun e w' => e = .returned (.bool (clsd (s.K.getD i zk).1 s.tk)) ∧ ∃ m, w' = w.drewN m := by
  obtain ⟨g, cap, eV, hg, hc, c0, c1, c2, fz⟩ := h.row hi
  have x0 := h.cell (k := 0) (by decide)
  have x49 := h.cell (k := 49) (by decide)
  rw [at0, eV] at x0
  rw [at49] at x49
  have E := hide (and_eq _ _ hS hT)
  unfold clsd
  generalize (s.K.getD i zk).1 = S at *
  generalize s.tk = T at *
  have hi' : (i : Int) < (s.K.length : Int) := by omega
  generalize s.K.length = n at *
  clear h eV c1 c2 fz hS hT
  go_enter Tryd.func201, Tryd.ntmps201
  go_wp2
  go_quiet (fail)
  go_wp2
  go_ret
  exact ⟨ret_bool (by rw [unhide E]; rw [Bool.eq_iff_iff, bne_iff_ne, bne_iff_ne]; omega), _, rfl⟩
set_option maxRecDepth 100000 in
set_option maxHeartbeats 2000000 in
theorem open_ {w : World} {c i : Nat} {s : WS} (h : Wat w c s) (hi : i < s.K.length) (hl : s.K.length ≤ 1048576) (hS : (s.K.getD i zk).1 < 2 ^ 48) (hT : s.tk < 2 ^ 48) :
    Calls Tryd.prog 202 #[.pointer (some ⟨c, 0, none⟩), .int .i64 (i : Int)] w fun e w' => e = .returned (.int .u64 (opn (s.K.getD i zk).1 s.tk : Nat)) ∧ ∃ m, w' = w.drewN m := by
  obtain ⟨g, cap, eV, hg, hc, c0, c1, c2, fz⟩ := h.row hi
  have x0 := h.cell (k := 0) (by decide)
  have x49 := h.cell (k := 49) (by decide)
  rw [at0, eV] at x0
  rw [at49] at x49
  have E := hide (andN_eq _ _ hS (oppN_lt s.tk))
  have CO := hide (fun w => srt.opposites s.tk w hT)
  unfold opn
  generalize (s.K.getD i zk).1 = S at *
  generalize s.tk = T at *
  generalize oppN T = O at *
  have hi' : (i : Int) < (s.K.length : Int) := by omega
  generalize s.K.length = n at *
  clear h eV c1 c2 fz hS hT
  go_enter Tryd.func202, Tryd.ntmps202
  go_wp2
  go_quiet (first | (go_at_call 101; refine Calls.quiet_of_same (unhide CO _)))
  go_wp2
  go_ret
  exact ⟨ret_int (by rw [unhide E]), _, rfl⟩
end Go.Proofs.YtheigbmkldlicaaDoor.wm
