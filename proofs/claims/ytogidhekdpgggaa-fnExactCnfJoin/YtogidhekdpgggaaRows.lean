/-
  No cell of these rows narrows 'for every input' (looked for: loops, veiled, ifaces, maps, wideKeys, modest, calm, conditions, laid).
  DERIVED. THE GIVEN ROWS OF THIS SEAT. 6 by the template 'for every input the law returns true; each argument reads behind the call as it read before'; 0 by the template 'total and deterministic' (their statements: YtogidhekdpgggaaTotals.lean).
  GIVEN WITH THE SEED: the statements are not yours to turn. If you find one false, say at which input.
  Laid BY PROGRAM, IN A SANDBOX (cutbox-rows.mjs): the forced cells as the released guide's own fill.sh prints them over the translation 537d2ebbe98b35a9… (all of the seat's roots in one cut). By AI agents, Wed Nov 11 2026. No macro, syntax, notation, axiom, sorry.
-/
import Derived.Test.YtogidhekdpgggaaChecked
import GoSem.Claim
import GoSem.ClaimJoined
import GoSem.ClaimMapViews
import Derived.JoinedTies
import Derived.KernelRfl
namespace Go.Proofs.Ytogidhekdpgggaa
/- THE CELL 'sum', in the pinned program and in every row, IS THE sha256 OF THE DUMP (.gsa) THAT YtogidhekdpgggaaProg.lean LOADS. Nothing in Lean hashes anything: it is a label: what it is worth is what the hold of that sum in a sandbox is worth. -/
noncomputable def Try.pinned : Pinned := { name := "ytogidhekdpgggaa", sum := "537d2ebbe98b35a9af1cde3380f5b6d22e9dbf2c1f9a0526918837af5435e571", checked := Try.checked }
namespace Rows
def none {H : Type} : Left H := { results := [], args := [] }

/-- 'laws.FnExactCnfOk': WHATEVER THE INPUT: true; the input reads as it did. -/
def fnExactCnfOkSpec : ChangeSpec := { name := "fnExactCnfOk", fn := fun _ => fun
  | [d] => { results := [.lit (.bool true)], args := [d] }
  | _ => none }
def fnExactCnfOkRow : OpenClaim := { program := "ytogidhekdpgggaa", sum := "537d2ebbe98b35a9af1cde3380f5b6d22e9dbf2c1f9a0526918837af5435e571", func := "loop.example/g00123/laws.FnExactCnfOk", spec := "fnExactCnfOk", apart := false }
def FnExactCnfOkSaid : Prop := fnExactCnfOkRow.holds Try.pinned (OpenSpec.ofChange fnExactCnfOkSpec)

/-- ITS FALSE NEIGHBOUR: 'it returns false'. Refute it at one input. -/
def fnExactCnfOkWrong : ChangeSpec := { name := "fnExactCnfOk", fn := fun _ => fun
  | [d] => { results := [.lit (.bool false)], args := [d] }
  | _ => none }
def FnExactCnfOkWrongFalsely : Prop := fnExactCnfOkRow.holds Try.pinned (OpenSpec.ofChange fnExactCnfOkWrong)

/-- 'laws.FnExactAssignOk': WHATEVER THE INPUT: true; the input reads as it did. -/
def fnExactAssignOkSpec : ChangeSpec := { name := "fnExactAssignOk", fn := fun _ => fun
  | [d1, d2] => { results := [.lit (.bool true)], args := [d1, d2] }
  | _ => none }
def fnExactAssignOkRow : OpenClaim := { program := "ytogidhekdpgggaa", sum := "537d2ebbe98b35a9af1cde3380f5b6d22e9dbf2c1f9a0526918837af5435e571", func := "loop.example/g00123/laws.FnExactAssignOk", spec := "fnExactAssignOk", apart := false }
def FnExactAssignOkSaid : Prop := fnExactAssignOkRow.holds Try.pinned (OpenSpec.ofChange fnExactAssignOkSpec)

/-- ITS FALSE NEIGHBOUR: 'it returns false'. Refute it at one input. -/
def fnExactAssignOkWrong : ChangeSpec := { name := "fnExactAssignOk", fn := fun _ => fun
  | [d1, d2] => { results := [.lit (.bool false)], args := [d1, d2] }
  | _ => none }
def FnExactAssignOkWrongFalsely : Prop := fnExactAssignOkRow.holds Try.pinned (OpenSpec.ofChange fnExactAssignOkWrong)

/-- 'laws.FnExactClauseTrue': WHATEVER THE INPUT: true; the input reads as it did. -/
def fnExactClauseTrueSpec : ChangeSpec := { name := "fnExactClauseTrue", fn := fun _ => fun
  | [d1, d2] => { results := [.lit (.bool true)], args := [d1, d2] }
  | _ => none }
def fnExactClauseTrueRow : OpenClaim := { program := "ytogidhekdpgggaa", sum := "537d2ebbe98b35a9af1cde3380f5b6d22e9dbf2c1f9a0526918837af5435e571", func := "loop.example/g00123/laws.FnExactClauseTrue", spec := "fnExactClauseTrue", apart := false }
def FnExactClauseTrueSaid : Prop := fnExactClauseTrueRow.holds Try.pinned (OpenSpec.ofChange fnExactClauseTrueSpec)

/-- ITS FALSE NEIGHBOUR: 'it returns false'. Refute it at one input. -/
def fnExactClauseTrueWrong : ChangeSpec := { name := "fnExactClauseTrue", fn := fun _ => fun
  | [d1, d2] => { results := [.lit (.bool false)], args := [d1, d2] }
  | _ => none }
def FnExactClauseTrueWrongFalsely : Prop := fnExactClauseTrueRow.holds Try.pinned (OpenSpec.ofChange fnExactClauseTrueWrong)

/-- 'laws.FnExactCnfTrue': WHATEVER THE INPUT: true; the input reads as it did. -/
def fnExactCnfTrueSpec : ChangeSpec := { name := "fnExactCnfTrue", fn := fun _ => fun
  | [d1, d2] => { results := [.lit (.bool true)], args := [d1, d2] }
  | _ => none }
def fnExactCnfTrueRow : OpenClaim := { program := "ytogidhekdpgggaa", sum := "537d2ebbe98b35a9af1cde3380f5b6d22e9dbf2c1f9a0526918837af5435e571", func := "loop.example/g00123/laws.FnExactCnfTrue", spec := "fnExactCnfTrue", apart := false }
def FnExactCnfTrueSaid : Prop := fnExactCnfTrueRow.holds Try.pinned (OpenSpec.ofChange fnExactCnfTrueSpec)

/-- ITS FALSE NEIGHBOUR: 'it returns false'. Refute it at one input. -/
def fnExactCnfTrueWrong : ChangeSpec := { name := "fnExactCnfTrue", fn := fun _ => fun
  | [d1, d2] => { results := [.lit (.bool false)], args := [d1, d2] }
  | _ => none }
def FnExactCnfTrueWrongFalsely : Prop := fnExactCnfTrueRow.holds Try.pinned (OpenSpec.ofChange fnExactCnfTrueWrong)

/-- 'laws.FnExactFix': WHATEVER THE INPUT: true; the input reads as it did. -/
def fnExactFixSpec : ChangeSpec := { name := "fnExactFix", fn := fun _ => fun
  | [d1, d2] => { results := [.lit (.bool true)], args := [d1, d2] }
  | _ => none }
def fnExactFixRow : OpenClaim := { program := "ytogidhekdpgggaa", sum := "537d2ebbe98b35a9af1cde3380f5b6d22e9dbf2c1f9a0526918837af5435e571", func := "loop.example/g00123/laws.FnExactFix", spec := "fnExactFix", apart := false }
def FnExactFixSaid : Prop := fnExactFixRow.holds Try.pinned (OpenSpec.ofChange fnExactFixSpec)

/-- ITS FALSE NEIGHBOUR: 'it returns false'. Refute it at one input. -/
def fnExactFixWrong : ChangeSpec := { name := "fnExactFix", fn := fun _ => fun
  | [d1, d2] => { results := [.lit (.bool false)], args := [d1, d2] }
  | _ => none }
def FnExactFixWrongFalsely : Prop := fnExactFixRow.holds Try.pinned (OpenSpec.ofChange fnExactFixWrong)

/-- 'laws.FnExactCnfJoin': WHATEVER THE INPUT: true; the input reads as it did. -/
def fnExactCnfJoinSpec : ChangeSpec := { name := "fnExactCnfJoin", fn := fun _ => fun
  | [d1, d2] => { results := [.lit (.bool true)], args := [d1, d2] }
  | _ => none }
def fnExactCnfJoinRow : OpenClaim := { program := "ytogidhekdpgggaa", sum := "537d2ebbe98b35a9af1cde3380f5b6d22e9dbf2c1f9a0526918837af5435e571", func := "loop.example/g00123/laws.FnExactCnfJoin", spec := "fnExactCnfJoin", apart := false }
def FnExactCnfJoinSaid : Prop := fnExactCnfJoinRow.holds Try.pinned (OpenSpec.ofChange fnExactCnfJoinSpec)

/-- ITS FALSE NEIGHBOUR: 'it returns false'. Refute it at one input. -/
def fnExactCnfJoinWrong : ChangeSpec := { name := "fnExactCnfJoin", fn := fun _ => fun
  | [d1, d2] => { results := [.lit (.bool false)], args := [d1, d2] }
  | _ => none }
def FnExactCnfJoinWrongFalsely : Prop := fnExactCnfJoinRow.holds Try.pinned (OpenSpec.ofChange fnExactCnfJoinWrong)

/- THE SECOND FORM. 'bulk': how many values and letters a reading holds, each counted each time it is reached (what is shared counts as often as it is met; a slice's spare places count too). A statement '..UptoSaid' is the law's where the arguments, and the package variables that the reading takes, are together of bulk at most 1048576: NARROWER than '..Said'. Prove '..Said' where nothing that the law and all that it calls make is longer than what came in: it says more and counts as full. Else prove '..UptoSaid'. A law counts once. -/
mutual
def uptoBulk {H : Type} : DataW H → Nat
  | .lit (.string bytes) => bytes.length + 1
  | .lit _ => 1
  | .nil => 1
  | .ptr d => uptoBulk d + 1
  | .slice elems spare => uptoBulkAll elems + uptoBulkAll spare + 1
  | .agg parts => uptoBulkAll parts + 1
  | .iface _ d => uptoBulk d + 1
  | .map entries => uptoBulkEntries entries + 1
  | .held _ => 1
def uptoBulkAll {H : Type} : List (DataW H) → Nat
  | [] => 0
  | d :: r => uptoBulk d + uptoBulkAll r
def uptoBulkEntries {H : Type} : List (Lit × DataW H) → Nat
  | [] => 0
  | x :: r => uptoBulkEntry x + uptoBulkEntries r
def uptoBulkEntry {H : Type} : Lit × DataW H → Nat
  | (.string bytes, d) => bytes.length + uptoBulk d + 1
  | (_, d) => uptoBulk d + 1
 end
def uptoSmall : (H : Type) → List (DataW H) → Bool := fun _ ds => decide (uptoBulkAll ds ≤ 1048576)
def OpenSpec.upto (s : _root_.Go.ChangeSpec) : _root_.Go.OpenSpec := { _root_.Go.OpenSpec.ofChange s with cond := some uptoSmall }

/-- 'laws.FnExactCnfOk', WHERE WHAT IT READS IS OF BULK AT MOST 1048576: true; the input reads as it did. -/
def fnExactCnfOkUptoRow : OpenClaim := { program := "ytogidhekdpgggaa", sum := "537d2ebbe98b35a9af1cde3380f5b6d22e9dbf2c1f9a0526918837af5435e571", func := "loop.example/g00123/laws.FnExactCnfOk", spec := "fnExactCnfOk", apart := false, narrowed := true }
def FnExactCnfOkUptoSaid : Prop := fnExactCnfOkUptoRow.holds Try.pinned (OpenSpec.upto fnExactCnfOkSpec)

/-- 'laws.FnExactAssignOk', WHERE WHAT IT READS IS OF BULK AT MOST 1048576: true; the input reads as it did. -/
def fnExactAssignOkUptoRow : OpenClaim := { program := "ytogidhekdpgggaa", sum := "537d2ebbe98b35a9af1cde3380f5b6d22e9dbf2c1f9a0526918837af5435e571", func := "loop.example/g00123/laws.FnExactAssignOk", spec := "fnExactAssignOk", apart := false, narrowed := true }
def FnExactAssignOkUptoSaid : Prop := fnExactAssignOkUptoRow.holds Try.pinned (OpenSpec.upto fnExactAssignOkSpec)

/-- 'laws.FnExactClauseTrue', WHERE WHAT IT READS IS OF BULK AT MOST 1048576: true; the input reads as it did. -/
def fnExactClauseTrueUptoRow : OpenClaim := { program := "ytogidhekdpgggaa", sum := "537d2ebbe98b35a9af1cde3380f5b6d22e9dbf2c1f9a0526918837af5435e571", func := "loop.example/g00123/laws.FnExactClauseTrue", spec := "fnExactClauseTrue", apart := false, narrowed := true }
def FnExactClauseTrueUptoSaid : Prop := fnExactClauseTrueUptoRow.holds Try.pinned (OpenSpec.upto fnExactClauseTrueSpec)

/-- 'laws.FnExactCnfTrue', WHERE WHAT IT READS IS OF BULK AT MOST 1048576: true; the input reads as it did. -/
def fnExactCnfTrueUptoRow : OpenClaim := { program := "ytogidhekdpgggaa", sum := "537d2ebbe98b35a9af1cde3380f5b6d22e9dbf2c1f9a0526918837af5435e571", func := "loop.example/g00123/laws.FnExactCnfTrue", spec := "fnExactCnfTrue", apart := false, narrowed := true }
def FnExactCnfTrueUptoSaid : Prop := fnExactCnfTrueUptoRow.holds Try.pinned (OpenSpec.upto fnExactCnfTrueSpec)

/-- 'laws.FnExactFix', WHERE WHAT IT READS IS OF BULK AT MOST 1048576: true; the input reads as it did. -/
def fnExactFixUptoRow : OpenClaim := { program := "ytogidhekdpgggaa", sum := "537d2ebbe98b35a9af1cde3380f5b6d22e9dbf2c1f9a0526918837af5435e571", func := "loop.example/g00123/laws.FnExactFix", spec := "fnExactFix", apart := false, narrowed := true }
def FnExactFixUptoSaid : Prop := fnExactFixUptoRow.holds Try.pinned (OpenSpec.upto fnExactFixSpec)

/-- 'laws.FnExactCnfJoin', WHERE WHAT IT READS IS OF BULK AT MOST 1048576: true; the input reads as it did. -/
def fnExactCnfJoinUptoRow : OpenClaim := { program := "ytogidhekdpgggaa", sum := "537d2ebbe98b35a9af1cde3380f5b6d22e9dbf2c1f9a0526918837af5435e571", func := "loop.example/g00123/laws.FnExactCnfJoin", spec := "fnExactCnfJoin", apart := false, narrowed := true }
def FnExactCnfJoinUptoSaid : Prop := fnExactCnfJoinUptoRow.holds Try.pinned (OpenSpec.upto fnExactCnfJoinSpec)

end Rows
end Go.Proofs.Ytogidhekdpgggaa
