/- The reader's refusals: refuse panics with a textFailure; the deferred closure of tryText takes it over. -/
import Derived.Test.YtfokbkaommfnoaaGreatDoorEa
import Derived.Recover
namespace Go.Proofs.YtfokbkaommfnoaaGreatDoor.tt
open Go.RowKit
set_option linter.unusedVariables false

/-- what a refusal is -/
def fail (c l : Int) : Value := .iface 57 (.agg #[.int .i64 c, .int .i64 l])
theorem assertYes (v : Value) (w : World) : (Instr.typeAssert (.iface 57 v) 20 44 true).run Tryz.prog w = .ok (.tuple #[.iface 57 v, .bool true]) w := by kernel_rfl
theorem assertNo (w : World) : (Instr.typeAssert .nilIface 20 44 true).run Tryz.prog w = .ok (.tuple #[.nilIface, .bool false]) w := by kernel_rfl
theorem refuse (r : Nat) (c l : Int) (w : World) (hl : w.cell? ⟨r, 1, none⟩ = some (.int .i64 l)) :
    Calls Tryz.prog 55 #[.pointer (some ⟨r, 0, none⟩), .int .i64 c] w fun e w' => e = .panicked [{ v := fail c l, recovered := false }] ∧ w' = w := by
  have hp : ∀ (v : Value) (w : World), (Instr.panic (.iface 57 v)).run Tryz.prog w = .halt (.panic (.iface 57 v)) w := fun _ _ => by kernel_rfl
  go_enter Tryz.func55, Tryz.ntmps55
  go_wp2
  exact ⟨rfl, rfl, rfl⟩
set_option maxRecDepth 100000 in
set_option maxHeartbeats 1000000 in
theorem catch_panicking (p : Addr) (c l : Int) (x : Value) (older : List PanicEntry) (w : World) (hc : w.cell? p = some x) (hz : w.frozen? p = false) :
    CallsD Tryz.prog 53 #[.pointer (some p)] (.panicking ({ v := fail c l, recovered := false } :: older)) w fun e u' w' =>
      e = .returned (.tuple #[]) ∧ u' = .panicking ({ v := fail c l, recovered := true } :: older) ∧ w' = w.setCell p (fail c l) := by
  have ha := assertYes
  refine callsD_of_wpS Tryz.func53 rfl fun c₀ cs hu => ?_
  apply wpS_seq
  apply wpS_region
  simp [wpOpsS, go_sem, recoverD, hu, Tryz.ntmps53, Exit.thenS, fail, ha]
  apply wpS_seq
  apply wpS_region
  simp [wpOpsS, go_sem, Exit.thenS]
  refine wpS_cond (t := true) (by simp [Act.eval, Array.replicate]) ?_
  simp only [if_true]
  apply wpS_region
  simp [wpOpsS, go_sem, hc, hz, bodyPostS, results, Tryz.results53]
set_option maxRecDepth 100000 in
set_option maxHeartbeats 1000000 in
theorem catch_idle (p : Addr) (w : World) :
    CallsD Tryz.prog 53 #[.pointer (some p)] .returning w fun e u' w' => e = .returned (.tuple #[]) ∧ u' = .returning ∧ w' = w := by
  have ha := assertNo
  refine callsD_of_wpS Tryz.func53 rfl fun c₀ cs hu => ?_
  apply wpS_seq
  apply wpS_region
  simp [wpOpsS, go_sem, recoverD, hu, Tryz.ntmps53, Exit.thenS, ha]
  apply wpS_seq
  apply wpS_region
  simp [wpOpsS, go_sem, Exit.thenS]
  refine wpS_cond (t := false) (by simp [Act.eval, Array.replicate]) ?_
  simp only [Bool.false_eq_true, if_false]
  refine wpS_of_wp (wp_skip ?_)
  cases c₀
  simp_all [bodyPostS, results, Tryz.results53]
end Go.Proofs.YtfokbkaommfnoaaGreatDoor.tt
