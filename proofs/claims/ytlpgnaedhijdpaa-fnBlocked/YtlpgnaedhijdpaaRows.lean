/-
  No cell of these rows narrows 'for every input' (looked for: loops, veiled, ifaces, maps, wideKeys, modest, calm, conditions, laid).
  DERIVED. THE GIVEN ROWS OF THIS SEAT. 5 by the template 'for every input the law returns true; each argument reads behind the call as it read before'; 0 by the template 'total and deterministic' (their statements: YtlpgnaedhijdpaaTotals.lean).
  GIVEN WITH THE SEED: the statements are not yours to turn. If you find one false, say at which input.
  Laid BY PROGRAM, IN A SANDBOX (cutbox-rows.mjs): the forced cells as the released guide's own fill.sh prints them over the translation cb4d3fb605d9aec3… (all of the seat's roots in one cut). By AI agents, Wed Nov 11 2026. No macro, syntax, notation, axiom, sorry.
-/
import Derived.Test.YtlpgnaedhijdpaaChecked
import GoSem.Claim
import GoSem.ClaimJoined
import GoSem.ClaimMapViews
import Derived.JoinedTies
import Derived.KernelRfl
namespace Go.Proofs.Ytlpgnaedhijdpaa
/- THE CELL 'sum', in the pinned program and in every row, IS THE sha256 OF THE DUMP (.gsa) THAT YtlpgnaedhijdpaaProg.lean LOADS. Nothing in Lean hashes anything: it is a label: what it is worth is what the hold of that sum in a sandbox is worth. -/
noncomputable def Try.pinned : Pinned := { name := "ytlpgnaedhijdpaa", sum := "cb4d3fb605d9aec3be7413bb505e3c1b32044066e4912cd7242d0f37ea5b0df7", checked := Try.checked }
namespace Rows
def none {H : Type} : Left H := { results := [], args := [] }

/-- 'laws.FnBlocked': WHATEVER THE INPUT: true; the input reads as it did. -/
def fnBlockedSpec : ChangeSpec := { name := "fnBlocked", fn := fun _ => fun
  | [d] => { results := [.lit (.bool true)], args := [d] }
  | _ => none }
def fnBlockedRow : OpenClaim := { program := "ytlpgnaedhijdpaa", sum := "cb4d3fb605d9aec3be7413bb505e3c1b32044066e4912cd7242d0f37ea5b0df7", func := "loop.example/g00123/laws.FnBlocked", spec := "fnBlocked", unfollowed := true, recurses := true, apart := false }
def FnBlockedSaid : Prop := fnBlockedRow.holds Try.pinned (OpenSpec.ofChange fnBlockedSpec)

/-- ITS FALSE NEIGHBOUR: 'it returns false'. Refute it at one input. -/
def fnBlockedWrong : ChangeSpec := { name := "fnBlocked", fn := fun _ => fun
  | [d] => { results := [.lit (.bool false)], args := [d] }
  | _ => none }
def FnBlockedWrongFalsely : Prop := fnBlockedRow.holds Try.pinned (OpenSpec.ofChange fnBlockedWrong)

/-- 'laws.FnExactBlocked': WHATEVER THE INPUT: true; the input reads as it did. -/
def fnExactBlockedSpec : ChangeSpec := { name := "fnExactBlocked", fn := fun _ => fun
  | [d1, d2] => { results := [.lit (.bool true)], args := [d1, d2] }
  | _ => none }
def fnExactBlockedRow : OpenClaim := { program := "ytlpgnaedhijdpaa", sum := "cb4d3fb605d9aec3be7413bb505e3c1b32044066e4912cd7242d0f37ea5b0df7", func := "loop.example/g00123/laws.FnExactBlocked", spec := "fnExactBlocked", apart := false }
def FnExactBlockedSaid : Prop := fnExactBlockedRow.holds Try.pinned (OpenSpec.ofChange fnExactBlockedSpec)

/-- ITS FALSE NEIGHBOUR: 'it returns false'. Refute it at one input. -/
def fnExactBlockedWrong : ChangeSpec := { name := "fnExactBlocked", fn := fun _ => fun
  | [d1, d2] => { results := [.lit (.bool false)], args := [d1, d2] }
  | _ => none }
def FnExactBlockedWrongFalsely : Prop := fnExactBlockedRow.holds Try.pinned (OpenSpec.ofChange fnExactBlockedWrong)

/-- 'laws.FnExactMachineOk': WHATEVER THE INPUT: true; the input reads as it did. -/
def fnExactMachineOkSpec : ChangeSpec := { name := "fnExactMachineOk", fn := fun _ => fun
  | [d] => { results := [.lit (.bool true)], args := [d] }
  | _ => none }
def fnExactMachineOkRow : OpenClaim := { program := "ytlpgnaedhijdpaa", sum := "cb4d3fb605d9aec3be7413bb505e3c1b32044066e4912cd7242d0f37ea5b0df7", func := "loop.example/g00123/laws.FnExactMachineOk", spec := "fnExactMachineOk", apart := false }
def FnExactMachineOkSaid : Prop := fnExactMachineOkRow.holds Try.pinned (OpenSpec.ofChange fnExactMachineOkSpec)

/-- ITS FALSE NEIGHBOUR: 'it returns false'. Refute it at one input. -/
def fnExactMachineOkWrong : ChangeSpec := { name := "fnExactMachineOk", fn := fun _ => fun
  | [d] => { results := [.lit (.bool false)], args := [d] }
  | _ => none }
def FnExactMachineOkWrongFalsely : Prop := fnExactMachineOkRow.holds Try.pinned (OpenSpec.ofChange fnExactMachineOkWrong)

/-- 'laws.FnExactMachineStart': WHATEVER THE INPUT: true; the input reads as it did. -/
def fnExactMachineStartSpec : ChangeSpec := { name := "fnExactMachineStart", fn := fun _ => fun
  | [d] => { results := [.lit (.bool true)], args := [d] }
  | _ => none }
def fnExactMachineStartRow : OpenClaim := { program := "ytlpgnaedhijdpaa", sum := "cb4d3fb605d9aec3be7413bb505e3c1b32044066e4912cd7242d0f37ea5b0df7", func := "loop.example/g00123/laws.FnExactMachineStart", spec := "fnExactMachineStart", apart := false }
def FnExactMachineStartSaid : Prop := fnExactMachineStartRow.holds Try.pinned (OpenSpec.ofChange fnExactMachineStartSpec)

/-- ITS FALSE NEIGHBOUR: 'it returns false'. Refute it at one input. -/
def fnExactMachineStartWrong : ChangeSpec := { name := "fnExactMachineStart", fn := fun _ => fun
  | [d] => { results := [.lit (.bool false)], args := [d] }
  | _ => none }
def FnExactMachineStartWrongFalsely : Prop := fnExactMachineStartRow.holds Try.pinned (OpenSpec.ofChange fnExactMachineStartWrong)

/-- 'laws.FnExactMachineAnswer': WHATEVER THE INPUT: true; the input reads as it did. -/
def fnExactMachineAnswerSpec : ChangeSpec := { name := "fnExactMachineAnswer", fn := fun _ => fun
  | [d] => { results := [.lit (.bool true)], args := [d] }
  | _ => none }
def fnExactMachineAnswerRow : OpenClaim := { program := "ytlpgnaedhijdpaa", sum := "cb4d3fb605d9aec3be7413bb505e3c1b32044066e4912cd7242d0f37ea5b0df7", func := "loop.example/g00123/laws.FnExactMachineAnswer", spec := "fnExactMachineAnswer", apart := false }
def FnExactMachineAnswerSaid : Prop := fnExactMachineAnswerRow.holds Try.pinned (OpenSpec.ofChange fnExactMachineAnswerSpec)

/-- ITS FALSE NEIGHBOUR: 'it returns false'. Refute it at one input. -/
def fnExactMachineAnswerWrong : ChangeSpec := { name := "fnExactMachineAnswer", fn := fun _ => fun
  | [d] => { results := [.lit (.bool false)], args := [d] }
  | _ => none }
def FnExactMachineAnswerWrongFalsely : Prop := fnExactMachineAnswerRow.holds Try.pinned (OpenSpec.ofChange fnExactMachineAnswerWrong)

/- THE SECOND FORM. 'bulk': how many values and letters a reading holds, each counted each time it is reached (what is shared counts as often as it is met; a slice's spare places count too). A statement '..UptoSaid' is the law's where the arguments, and the package variables that the reading takes, are together of bulk at most 1048576: NARROWER than '..Said'. Prove '..Said' where nothing that the law and all that it calls make is longer than what came in: it says more and counts as full. Else prove '..UptoSaid'. A law counts once. -/
mutual
def uptoBulk {H : Type} : DataW H → Nat
  | .lit (.string bytes) => bytes.length + 1
  | .lit _ => 1
  | .nil => 1
  | .ptr d => uptoBulk d + 1
  | .slice elems spare => uptoBulkAll elems + uptoBulkAll spare + 1
  | .agg parts => uptoBulkAll parts + 1
  | .iface _ d => uptoBulk d + 1
  | .map entries => uptoBulkEntries entries + 1
  | .held _ => 1
def uptoBulkAll {H : Type} : List (DataW H) → Nat
  | [] => 0
  | d :: r => uptoBulk d + uptoBulkAll r
def uptoBulkEntries {H : Type} : List (Lit × DataW H) → Nat
  | [] => 0
  | x :: r => uptoBulkEntry x + uptoBulkEntries r
def uptoBulkEntry {H : Type} : Lit × DataW H → Nat
  | (.string bytes, d) => bytes.length + uptoBulk d + 1
  | (_, d) => uptoBulk d + 1
 end
def uptoSmall : (H : Type) → List (DataW H) → Bool := fun _ ds => decide (uptoBulkAll ds ≤ 1048576)
def OpenSpec.upto (s : _root_.Go.ChangeSpec) : _root_.Go.OpenSpec := { _root_.Go.OpenSpec.ofChange s with cond := some uptoSmall }

/-- 'laws.FnBlocked', WHERE WHAT IT READS IS OF BULK AT MOST 1048576: true; the input reads as it did. -/
def fnBlockedUptoRow : OpenClaim := { program := "ytlpgnaedhijdpaa", sum := "cb4d3fb605d9aec3be7413bb505e3c1b32044066e4912cd7242d0f37ea5b0df7", func := "loop.example/g00123/laws.FnBlocked", spec := "fnBlocked", unfollowed := true, recurses := true, apart := false, narrowed := true }
def FnBlockedUptoSaid : Prop := fnBlockedUptoRow.holds Try.pinned (OpenSpec.upto fnBlockedSpec)

/-- 'laws.FnExactBlocked', WHERE WHAT IT READS IS OF BULK AT MOST 1048576: true; the input reads as it did. -/
def fnExactBlockedUptoRow : OpenClaim := { program := "ytlpgnaedhijdpaa", sum := "cb4d3fb605d9aec3be7413bb505e3c1b32044066e4912cd7242d0f37ea5b0df7", func := "loop.example/g00123/laws.FnExactBlocked", spec := "fnExactBlocked", apart := false, narrowed := true }
def FnExactBlockedUptoSaid : Prop := fnExactBlockedUptoRow.holds Try.pinned (OpenSpec.upto fnExactBlockedSpec)

/-- 'laws.FnExactMachineOk', WHERE WHAT IT READS IS OF BULK AT MOST 1048576: true; the input reads as it did. -/
def fnExactMachineOkUptoRow : OpenClaim := { program := "ytlpgnaedhijdpaa", sum := "cb4d3fb605d9aec3be7413bb505e3c1b32044066e4912cd7242d0f37ea5b0df7", func := "loop.example/g00123/laws.FnExactMachineOk", spec := "fnExactMachineOk", apart := false, narrowed := true }
def FnExactMachineOkUptoSaid : Prop := fnExactMachineOkUptoRow.holds Try.pinned (OpenSpec.upto fnExactMachineOkSpec)

/-- 'laws.FnExactMachineStart', WHERE WHAT IT READS IS OF BULK AT MOST 1048576: true; the input reads as it did. -/
def fnExactMachineStartUptoRow : OpenClaim := { program := "ytlpgnaedhijdpaa", sum := "cb4d3fb605d9aec3be7413bb505e3c1b32044066e4912cd7242d0f37ea5b0df7", func := "loop.example/g00123/laws.FnExactMachineStart", spec := "fnExactMachineStart", apart := false, narrowed := true }
def FnExactMachineStartUptoSaid : Prop := fnExactMachineStartUptoRow.holds Try.pinned (OpenSpec.upto fnExactMachineStartSpec)

/-- 'laws.FnExactMachineAnswer', WHERE WHAT IT READS IS OF BULK AT MOST 1048576: true; the input reads as it did. -/
def fnExactMachineAnswerUptoRow : OpenClaim := { program := "ytlpgnaedhijdpaa", sum := "cb4d3fb605d9aec3be7413bb505e3c1b32044066e4912cd7242d0f37ea5b0df7", func := "loop.example/g00123/laws.FnExactMachineAnswer", spec := "fnExactMachineAnswer", apart := false, narrowed := true }
def FnExactMachineAnswerUptoSaid : Prop := fnExactMachineAnswerUptoRow.holds Try.pinned (OpenSpec.upto fnExactMachineAnswerSpec)

end Rows
end Go.Proofs.Ytlpgnaedhijdpaa
