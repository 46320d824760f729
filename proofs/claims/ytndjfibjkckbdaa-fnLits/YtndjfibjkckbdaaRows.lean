/-
  No cell of these rows narrows 'for every input' (looked for: loops, veiled, ifaces, maps, wideKeys, modest, calm, conditions, laid).
  DERIVED. THE GIVEN ROWS OF THIS SEAT. 8 by the template 'for every input the law returns true; each argument reads behind the call as it read before'; 0 by the template 'total and deterministic' (their statements: YtndjfibjkckbdaaTotals.lean).
  GIVEN WITH THE SEED: the statements are not yours to turn. If you find one false, say at which input.
  Laid BY PROGRAM, IN A SANDBOX (cutbox-rows.mjs): the forced cells as the released guide's own fill.sh prints them over the translation 29044c7b2d5dd14b… (all of the seat's roots in one cut). By AI agents, Wed Nov 11 2026. No macro, syntax, notation, axiom, sorry.
-/
import Derived.Test.YtndjfibjkckbdaaChecked
import GoSem.Claim
import GoSem.ClaimJoined
import GoSem.ClaimMapViews
import Derived.JoinedTies
import Derived.KernelRfl
namespace Go.Proofs.Ytndjfibjkckbdaa
/- THE CELL 'sum', in the pinned program and in every row, IS THE sha256 OF THE DUMP (.gsa) THAT YtndjfibjkckbdaaProg.lean LOADS. Nothing in Lean hashes anything: it is a label: what it is worth is what the hold of that sum in a sandbox is worth. -/
noncomputable def Try.pinned : Pinned := { name := "ytndjfibjkckbdaa", sum := "29044c7b2d5dd14bd4899dd0518c0b02ecfa2f41a53611a55294e05995235a40", checked := Try.checked }
namespace Rows
def none {H : Type} : Left H := { results := [], args := [] }

/-- 'laws.FnLits': WHATEVER THE INPUT: true; the input reads as it did. -/
def fnLitsSpec : ChangeSpec := { name := "fnLits", fn := fun _ => fun
  | [d] => { results := [.lit (.bool true)], args := [d] }
  | _ => none }
def fnLitsRow : OpenClaim := { program := "ytndjfibjkckbdaa", sum := "29044c7b2d5dd14bd4899dd0518c0b02ecfa2f41a53611a55294e05995235a40", func := "loop.example/g00123/laws.FnLits", spec := "fnLits", apart := false }
def FnLitsSaid : Prop := fnLitsRow.holds Try.pinned (OpenSpec.ofChange fnLitsSpec)

/-- ITS FALSE NEIGHBOUR: 'it returns false'. Refute it at one input. -/
def fnLitsWrong : ChangeSpec := { name := "fnLits", fn := fun _ => fun
  | [d] => { results := [.lit (.bool false)], args := [d] }
  | _ => none }
def FnLitsWrongFalsely : Prop := fnLitsRow.holds Try.pinned (OpenSpec.ofChange fnLitsWrong)

/-- 'laws.FnExactLitOk': WHATEVER THE INPUT: true; the input reads as it did. -/
def fnExactLitOkSpec : ChangeSpec := { name := "fnExactLitOk", fn := fun _ => fun
  | [d] => { results := [.lit (.bool true)], args := [d] }
  | _ => none }
def fnExactLitOkRow : OpenClaim := { program := "ytndjfibjkckbdaa", sum := "29044c7b2d5dd14bd4899dd0518c0b02ecfa2f41a53611a55294e05995235a40", func := "loop.example/g00123/laws.FnExactLitOk", spec := "fnExactLitOk", apart := false }
def FnExactLitOkSaid : Prop := fnExactLitOkRow.holds Try.pinned (OpenSpec.ofChange fnExactLitOkSpec)

/-- ITS FALSE NEIGHBOUR: 'it returns false'. Refute it at one input. -/
def fnExactLitOkWrong : ChangeSpec := { name := "fnExactLitOk", fn := fun _ => fun
  | [d] => { results := [.lit (.bool false)], args := [d] }
  | _ => none }
def FnExactLitOkWrongFalsely : Prop := fnExactLitOkRow.holds Try.pinned (OpenSpec.ofChange fnExactLitOkWrong)

/-- 'laws.FnExactLitVar': WHATEVER THE INPUT: true; the input reads as it did. -/
def fnExactLitVarSpec : ChangeSpec := { name := "fnExactLitVar", fn := fun _ => fun
  | [d] => { results := [.lit (.bool true)], args := [d] }
  | _ => none }
def fnExactLitVarRow : OpenClaim := { program := "ytndjfibjkckbdaa", sum := "29044c7b2d5dd14bd4899dd0518c0b02ecfa2f41a53611a55294e05995235a40", func := "loop.example/g00123/laws.FnExactLitVar", spec := "fnExactLitVar", apart := false }
def FnExactLitVarSaid : Prop := fnExactLitVarRow.holds Try.pinned (OpenSpec.ofChange fnExactLitVarSpec)

/-- ITS FALSE NEIGHBOUR: 'it returns false'. Refute it at one input. -/
def fnExactLitVarWrong : ChangeSpec := { name := "fnExactLitVar", fn := fun _ => fun
  | [d] => { results := [.lit (.bool false)], args := [d] }
  | _ => none }
def FnExactLitVarWrongFalsely : Prop := fnExactLitVarRow.holds Try.pinned (OpenSpec.ofChange fnExactLitVarWrong)

/-- 'laws.FnExactLitBefore': WHATEVER THE INPUT: true; the input reads as it did. -/
def fnExactLitBeforeSpec : ChangeSpec := { name := "fnExactLitBefore", fn := fun _ => fun
  | [d1, d2] => { results := [.lit (.bool true)], args := [d1, d2] }
  | _ => none }
def fnExactLitBeforeRow : OpenClaim := { program := "ytndjfibjkckbdaa", sum := "29044c7b2d5dd14bd4899dd0518c0b02ecfa2f41a53611a55294e05995235a40", func := "loop.example/g00123/laws.FnExactLitBefore", spec := "fnExactLitBefore", apart := false }
def FnExactLitBeforeSaid : Prop := fnExactLitBeforeRow.holds Try.pinned (OpenSpec.ofChange fnExactLitBeforeSpec)

/-- ITS FALSE NEIGHBOUR: 'it returns false'. Refute it at one input. -/
def fnExactLitBeforeWrong : ChangeSpec := { name := "fnExactLitBefore", fn := fun _ => fun
  | [d1, d2] => { results := [.lit (.bool false)], args := [d1, d2] }
  | _ => none }
def FnExactLitBeforeWrongFalsely : Prop := fnExactLitBeforeRow.holds Try.pinned (OpenSpec.ofChange fnExactLitBeforeWrong)

/-- 'laws.FnExactClauseOk': WHATEVER THE INPUT: true; the input reads as it did. -/
def fnExactClauseOkSpec : ChangeSpec := { name := "fnExactClauseOk", fn := fun _ => fun
  | [d] => { results := [.lit (.bool true)], args := [d] }
  | _ => none }
def fnExactClauseOkRow : OpenClaim := { program := "ytndjfibjkckbdaa", sum := "29044c7b2d5dd14bd4899dd0518c0b02ecfa2f41a53611a55294e05995235a40", func := "loop.example/g00123/laws.FnExactClauseOk", spec := "fnExactClauseOk", apart := false }
def FnExactClauseOkSaid : Prop := fnExactClauseOkRow.holds Try.pinned (OpenSpec.ofChange fnExactClauseOkSpec)

/-- ITS FALSE NEIGHBOUR: 'it returns false'. Refute it at one input. -/
def fnExactClauseOkWrong : ChangeSpec := { name := "fnExactClauseOk", fn := fun _ => fun
  | [d] => { results := [.lit (.bool false)], args := [d] }
  | _ => none }
def FnExactClauseOkWrongFalsely : Prop := fnExactClauseOkRow.holds Try.pinned (OpenSpec.ofChange fnExactClauseOkWrong)

/-- 'laws.FnExactClauseHas': WHATEVER THE INPUT: true; the input reads as it did. -/
def fnExactClauseHasSpec : ChangeSpec := { name := "fnExactClauseHas", fn := fun _ => fun
  | [d1, d2] => { results := [.lit (.bool true)], args := [d1, d2] }
  | _ => none }
def fnExactClauseHasRow : OpenClaim := { program := "ytndjfibjkckbdaa", sum := "29044c7b2d5dd14bd4899dd0518c0b02ecfa2f41a53611a55294e05995235a40", func := "loop.example/g00123/laws.FnExactClauseHas", spec := "fnExactClauseHas", apart := false }
def FnExactClauseHasSaid : Prop := fnExactClauseHasRow.holds Try.pinned (OpenSpec.ofChange fnExactClauseHasSpec)

/-- ITS FALSE NEIGHBOUR: 'it returns false'. Refute it at one input. -/
def fnExactClauseHasWrong : ChangeSpec := { name := "fnExactClauseHas", fn := fun _ => fun
  | [d1, d2] => { results := [.lit (.bool false)], args := [d1, d2] }
  | _ => none }
def FnExactClauseHasWrongFalsely : Prop := fnExactClauseHasRow.holds Try.pinned (OpenSpec.ofChange fnExactClauseHasWrong)

/-- 'laws.FnExactClauseWithout': WHATEVER THE INPUT: true; the input reads as it did. -/
def fnExactClauseWithoutSpec : ChangeSpec := { name := "fnExactClauseWithout", fn := fun _ => fun
  | [d1, d2] => { results := [.lit (.bool true)], args := [d1, d2] }
  | _ => none }
def fnExactClauseWithoutRow : OpenClaim := { program := "ytndjfibjkckbdaa", sum := "29044c7b2d5dd14bd4899dd0518c0b02ecfa2f41a53611a55294e05995235a40", func := "loop.example/g00123/laws.FnExactClauseWithout", spec := "fnExactClauseWithout", apart := false }
def FnExactClauseWithoutSaid : Prop := fnExactClauseWithoutRow.holds Try.pinned (OpenSpec.ofChange fnExactClauseWithoutSpec)

/-- ITS FALSE NEIGHBOUR: 'it returns false'. Refute it at one input. -/
def fnExactClauseWithoutWrong : ChangeSpec := { name := "fnExactClauseWithout", fn := fun _ => fun
  | [d1, d2] => { results := [.lit (.bool false)], args := [d1, d2] }
  | _ => none }
def FnExactClauseWithoutWrongFalsely : Prop := fnExactClauseWithoutRow.holds Try.pinned (OpenSpec.ofChange fnExactClauseWithoutWrong)

/-- 'laws.FnExactClauseSub': WHATEVER THE INPUT: true; the input reads as it did. -/
def fnExactClauseSubSpec : ChangeSpec := { name := "fnExactClauseSub", fn := fun _ => fun
  | [d1, d2] => { results := [.lit (.bool true)], args := [d1, d2] }
  | _ => none }
def fnExactClauseSubRow : OpenClaim := { program := "ytndjfibjkckbdaa", sum := "29044c7b2d5dd14bd4899dd0518c0b02ecfa2f41a53611a55294e05995235a40", func := "loop.example/g00123/laws.FnExactClauseSub", spec := "fnExactClauseSub", apart := false }
def FnExactClauseSubSaid : Prop := fnExactClauseSubRow.holds Try.pinned (OpenSpec.ofChange fnExactClauseSubSpec)

/-- ITS FALSE NEIGHBOUR: 'it returns false'. Refute it at one input. -/
def fnExactClauseSubWrong : ChangeSpec := { name := "fnExactClauseSub", fn := fun _ => fun
  | [d1, d2] => { results := [.lit (.bool false)], args := [d1, d2] }
  | _ => none }
def FnExactClauseSubWrongFalsely : Prop := fnExactClauseSubRow.holds Try.pinned (OpenSpec.ofChange fnExactClauseSubWrong)

/- THE SECOND FORM. 'bulk': how many values and letters a reading holds, each counted each time it is reached (what is shared counts as often as it is met; a slice's spare places count too). A statement '..UptoSaid' is the law's where the arguments, and the package variables that the reading takes, are together of bulk at most 1048576: NARROWER than '..Said'. Prove '..Said' where nothing that the law and all that it calls make is longer than what came in: it says more and counts as full. Else prove '..UptoSaid'. A law counts once. -/
mutual
def uptoBulk {H : Type} : DataW H → Nat
  | .lit (.string bytes) => bytes.length + 1
  | .lit _ => 1
  | .nil => 1
  | .ptr d => uptoBulk d + 1
  | .slice elems spare => uptoBulkAll elems + uptoBulkAll spare + 1
  | .agg parts => uptoBulkAll parts + 1
  | .iface _ d => uptoBulk d + 1
  | .map entries => uptoBulkEntries entries + 1
  | .held _ => 1
def uptoBulkAll {H : Type} : List (DataW H) → Nat
  | [] => 0
  | d :: r => uptoBulk d + uptoBulkAll r
def uptoBulkEntries {H : Type} : List (Lit × DataW H) → Nat
  | [] => 0
  | x :: r => uptoBulkEntry x + uptoBulkEntries r
def uptoBulkEntry {H : Type} : Lit × DataW H → Nat
  | (.string bytes, d) => bytes.length + uptoBulk d + 1
  | (_, d) => uptoBulk d + 1
 end
def uptoSmall : (H : Type) → List (DataW H) → Bool := fun _ ds => decide (uptoBulkAll ds ≤ 1048576)
def OpenSpec.upto (s : _root_.Go.ChangeSpec) : _root_.Go.OpenSpec := { _root_.Go.OpenSpec.ofChange s with cond := some uptoSmall }

/-- 'laws.FnLits', WHERE WHAT IT READS IS OF BULK AT MOST 1048576: true; the input reads as it did. -/
def fnLitsUptoRow : OpenClaim := { program := "ytndjfibjkckbdaa", sum := "29044c7b2d5dd14bd4899dd0518c0b02ecfa2f41a53611a55294e05995235a40", func := "loop.example/g00123/laws.FnLits", spec := "fnLits", apart := false, narrowed := true }
def FnLitsUptoSaid : Prop := fnLitsUptoRow.holds Try.pinned (OpenSpec.upto fnLitsSpec)

/-- 'laws.FnExactLitOk', WHERE WHAT IT READS IS OF BULK AT MOST 1048576: true; the input reads as it did. -/
def fnExactLitOkUptoRow : OpenClaim := { program := "ytndjfibjkckbdaa", sum := "29044c7b2d5dd14bd4899dd0518c0b02ecfa2f41a53611a55294e05995235a40", func := "loop.example/g00123/laws.FnExactLitOk", spec := "fnExactLitOk", apart := false, narrowed := true }
def FnExactLitOkUptoSaid : Prop := fnExactLitOkUptoRow.holds Try.pinned (OpenSpec.upto fnExactLitOkSpec)

/-- 'laws.FnExactLitVar', WHERE WHAT IT READS IS OF BULK AT MOST 1048576: true; the input reads as it did. -/
def fnExactLitVarUptoRow : OpenClaim := { program := "ytndjfibjkckbdaa", sum := "29044c7b2d5dd14bd4899dd0518c0b02ecfa2f41a53611a55294e05995235a40", func := "loop.example/g00123/laws.FnExactLitVar", spec := "fnExactLitVar", apart := false, narrowed := true }
def FnExactLitVarUptoSaid : Prop := fnExactLitVarUptoRow.holds Try.pinned (OpenSpec.upto fnExactLitVarSpec)

/-- 'laws.FnExactLitBefore', WHERE WHAT IT READS IS OF BULK AT MOST 1048576: true; the input reads as it did. -/
def fnExactLitBeforeUptoRow : OpenClaim := { program := "ytndjfibjkckbdaa", sum := "29044c7b2d5dd14bd4899dd0518c0b02ecfa2f41a53611a55294e05995235a40", func := "loop.example/g00123/laws.FnExactLitBefore", spec := "fnExactLitBefore", apart := false, narrowed := true }
def FnExactLitBeforeUptoSaid : Prop := fnExactLitBeforeUptoRow.holds Try.pinned (OpenSpec.upto fnExactLitBeforeSpec)

/-- 'laws.FnExactClauseOk', WHERE WHAT IT READS IS OF BULK AT MOST 1048576: true; the input reads as it did. -/
def fnExactClauseOkUptoRow : OpenClaim := { program := "ytndjfibjkckbdaa", sum := "29044c7b2d5dd14bd4899dd0518c0b02ecfa2f41a53611a55294e05995235a40", func := "loop.example/g00123/laws.FnExactClauseOk", spec := "fnExactClauseOk", apart := false, narrowed := true }
def FnExactClauseOkUptoSaid : Prop := fnExactClauseOkUptoRow.holds Try.pinned (OpenSpec.upto fnExactClauseOkSpec)

/-- 'laws.FnExactClauseHas', WHERE WHAT IT READS IS OF BULK AT MOST 1048576: true; the input reads as it did. -/
def fnExactClauseHasUptoRow : OpenClaim := { program := "ytndjfibjkckbdaa", sum := "29044c7b2d5dd14bd4899dd0518c0b02ecfa2f41a53611a55294e05995235a40", func := "loop.example/g00123/laws.FnExactClauseHas", spec := "fnExactClauseHas", apart := false, narrowed := true }
def FnExactClauseHasUptoSaid : Prop := fnExactClauseHasUptoRow.holds Try.pinned (OpenSpec.upto fnExactClauseHasSpec)

/-- 'laws.FnExactClauseWithout', WHERE WHAT IT READS IS OF BULK AT MOST 1048576: true; the input reads as it did. -/
def fnExactClauseWithoutUptoRow : OpenClaim := { program := "ytndjfibjkckbdaa", sum := "29044c7b2d5dd14bd4899dd0518c0b02ecfa2f41a53611a55294e05995235a40", func := "loop.example/g00123/laws.FnExactClauseWithout", spec := "fnExactClauseWithout", apart := false, narrowed := true }
def FnExactClauseWithoutUptoSaid : Prop := fnExactClauseWithoutUptoRow.holds Try.pinned (OpenSpec.upto fnExactClauseWithoutSpec)

/-- 'laws.FnExactClauseSub', WHERE WHAT IT READS IS OF BULK AT MOST 1048576: true; the input reads as it did. -/
def fnExactClauseSubUptoRow : OpenClaim := { program := "ytndjfibjkckbdaa", sum := "29044c7b2d5dd14bd4899dd0518c0b02ecfa2f41a53611a55294e05995235a40", func := "loop.example/g00123/laws.FnExactClauseSub", spec := "fnExactClauseSub", apart := false, narrowed := true }
def FnExactClauseSubUptoSaid : Prop := fnExactClauseSubUptoRow.holds Try.pinned (OpenSpec.upto fnExactClauseSubSpec)

end Rows
end Go.Proofs.Ytndjfibjkckbdaa
