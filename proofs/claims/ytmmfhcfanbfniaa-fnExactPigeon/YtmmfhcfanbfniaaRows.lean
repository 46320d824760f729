/-
  No cell of these rows narrows 'for every input' (looked for: loops, veiled, ifaces, maps, wideKeys, modest, calm, conditions, laid).
  DERIVED. THE GIVEN ROWS OF THIS SEAT. 9 by the template 'for every input the law returns true; each argument reads behind the call as it read before'; 0 by the template 'total and deterministic' (their statements: YtmmfhcfanbfniaaTotals.lean).
  GIVEN WITH THE SEED: the statements are not yours to turn. If you find one false, say at which input.
  Laid BY PROGRAM, IN A SANDBOX (cutbox-rows.mjs): the forced cells as the released guide's own fill.sh prints them over the translation ab28c98b409ce28a… (all of the seat's roots in one cut). By AI agents, Wed Nov 11 2026. No macro, syntax, notation, axiom, sorry.
-/
import Derived.Test.YtmmfhcfanbfniaaChecked
import GoSem.Claim
import GoSem.ClaimJoined
import GoSem.ClaimMapViews
import Derived.JoinedTies
import Derived.KernelRfl
namespace Go.Proofs.Ytmmfhcfanbfniaa
/- THE CELL 'sum', in the pinned program and in every row, IS THE sha256 OF THE DUMP (.gsa) THAT YtmmfhcfanbfniaaProg.lean LOADS. Nothing in Lean hashes anything: it is a label: what it is worth is what the hold of that sum in a sandbox is worth. -/
noncomputable def Try.pinned : Pinned := { name := "ytmmfhcfanbfniaa", sum := "ab28c98b409ce28a2badc313ba9a1ca25663ca31e36d63fe1903722f194155a1", checked := Try.checked }
namespace Rows
def none {H : Type} : Left H := { results := [], args := [] }

/-- 'laws.FnAtMost': WHATEVER THE INPUT: true; the input reads as it did. -/
def fnAtMostSpec : ChangeSpec := { name := "fnAtMost", fn := fun _ => fun
  | [d] => { results := [.lit (.bool true)], args := [d] }
  | _ => none }
def fnAtMostRow : OpenClaim := { program := "ytmmfhcfanbfniaa", sum := "ab28c98b409ce28a2badc313ba9a1ca25663ca31e36d63fe1903722f194155a1", func := "loop.example/g00123/laws.FnAtMost", spec := "fnAtMost", unfollowed := true, recurses := true, apart := false }
def FnAtMostSaid : Prop := fnAtMostRow.holds Try.pinned (OpenSpec.ofChange fnAtMostSpec)

/-- ITS FALSE NEIGHBOUR: 'it returns false'. Refute it at one input. -/
def fnAtMostWrong : ChangeSpec := { name := "fnAtMost", fn := fun _ => fun
  | [d] => { results := [.lit (.bool false)], args := [d] }
  | _ => none }
def FnAtMostWrongFalsely : Prop := fnAtMostRow.holds Try.pinned (OpenSpec.ofChange fnAtMostWrong)

/-- 'laws.FnParity': WHATEVER THE INPUT: true; the input reads as it did. -/
def fnParitySpec : ChangeSpec := { name := "fnParity", fn := fun _ => fun
  | [d] => { results := [.lit (.bool true)], args := [d] }
  | _ => none }
def fnParityRow : OpenClaim := { program := "ytmmfhcfanbfniaa", sum := "ab28c98b409ce28a2badc313ba9a1ca25663ca31e36d63fe1903722f194155a1", func := "loop.example/g00123/laws.FnParity", spec := "fnParity", unfollowed := true, recurses := true, apart := false }
def FnParitySaid : Prop := fnParityRow.holds Try.pinned (OpenSpec.ofChange fnParitySpec)

/-- ITS FALSE NEIGHBOUR: 'it returns false'. Refute it at one input. -/
def fnParityWrong : ChangeSpec := { name := "fnParity", fn := fun _ => fun
  | [d] => { results := [.lit (.bool false)], args := [d] }
  | _ => none }
def FnParityWrongFalsely : Prop := fnParityRow.holds Try.pinned (OpenSpec.ofChange fnParityWrong)

/-- 'laws.FnGates': WHATEVER THE INPUT: true; the input reads as it did. -/
def fnGatesSpec : ChangeSpec := { name := "fnGates", fn := fun _ => fun
  | [d] => { results := [.lit (.bool true)], args := [d] }
  | _ => none }
def fnGatesRow : OpenClaim := { program := "ytmmfhcfanbfniaa", sum := "ab28c98b409ce28a2badc313ba9a1ca25663ca31e36d63fe1903722f194155a1", func := "loop.example/g00123/laws.FnGates", spec := "fnGates", unfollowed := true, recurses := true, apart := false }
def FnGatesSaid : Prop := fnGatesRow.holds Try.pinned (OpenSpec.ofChange fnGatesSpec)

/-- ITS FALSE NEIGHBOUR: 'it returns false'. Refute it at one input. -/
def fnGatesWrong : ChangeSpec := { name := "fnGates", fn := fun _ => fun
  | [d] => { results := [.lit (.bool false)], args := [d] }
  | _ => none }
def FnGatesWrongFalsely : Prop := fnGatesRow.holds Try.pinned (OpenSpec.ofChange fnGatesWrong)

/-- 'laws.FnExactAtMost': WHATEVER THE INPUT: true; the input reads as it did. -/
def fnExactAtMostSpec : ChangeSpec := { name := "fnExactAtMost", fn := fun _ => fun
  | [d1, d2] => { results := [.lit (.bool true)], args := [d1, d2] }
  | _ => none }
def fnExactAtMostRow : OpenClaim := { program := "ytmmfhcfanbfniaa", sum := "ab28c98b409ce28a2badc313ba9a1ca25663ca31e36d63fe1903722f194155a1", func := "loop.example/g00123/laws.FnExactAtMost", spec := "fnExactAtMost", unfollowed := true, recurses := true, apart := false }
def FnExactAtMostSaid : Prop := fnExactAtMostRow.holds Try.pinned (OpenSpec.ofChange fnExactAtMostSpec)

/-- ITS FALSE NEIGHBOUR: 'it returns false'. Refute it at one input. -/
def fnExactAtMostWrong : ChangeSpec := { name := "fnExactAtMost", fn := fun _ => fun
  | [d1, d2] => { results := [.lit (.bool false)], args := [d1, d2] }
  | _ => none }
def FnExactAtMostWrongFalsely : Prop := fnExactAtMostRow.holds Try.pinned (OpenSpec.ofChange fnExactAtMostWrong)

/-- 'laws.FnExactAtLeast': WHATEVER THE INPUT: true; the input reads as it did. -/
def fnExactAtLeastSpec : ChangeSpec := { name := "fnExactAtLeast", fn := fun _ => fun
  | [d1, d2] => { results := [.lit (.bool true)], args := [d1, d2] }
  | _ => none }
def fnExactAtLeastRow : OpenClaim := { program := "ytmmfhcfanbfniaa", sum := "ab28c98b409ce28a2badc313ba9a1ca25663ca31e36d63fe1903722f194155a1", func := "loop.example/g00123/laws.FnExactAtLeast", spec := "fnExactAtLeast", unfollowed := true, recurses := true, apart := false }
def FnExactAtLeastSaid : Prop := fnExactAtLeastRow.holds Try.pinned (OpenSpec.ofChange fnExactAtLeastSpec)

/-- ITS FALSE NEIGHBOUR: 'it returns false'. Refute it at one input. -/
def fnExactAtLeastWrong : ChangeSpec := { name := "fnExactAtLeast", fn := fun _ => fun
  | [d1, d2] => { results := [.lit (.bool false)], args := [d1, d2] }
  | _ => none }
def FnExactAtLeastWrongFalsely : Prop := fnExactAtLeastRow.holds Try.pinned (OpenSpec.ofChange fnExactAtLeastWrong)

/-- 'laws.FnExactExactly': WHATEVER THE INPUT: true; the input reads as it did. -/
def fnExactExactlySpec : ChangeSpec := { name := "fnExactExactly", fn := fun _ => fun
  | [d1, d2] => { results := [.lit (.bool true)], args := [d1, d2] }
  | _ => none }
def fnExactExactlyRow : OpenClaim := { program := "ytmmfhcfanbfniaa", sum := "ab28c98b409ce28a2badc313ba9a1ca25663ca31e36d63fe1903722f194155a1", func := "loop.example/g00123/laws.FnExactExactly", spec := "fnExactExactly", unfollowed := true, recurses := true, apart := false }
def FnExactExactlySaid : Prop := fnExactExactlyRow.holds Try.pinned (OpenSpec.ofChange fnExactExactlySpec)

/-- ITS FALSE NEIGHBOUR: 'it returns false'. Refute it at one input. -/
def fnExactExactlyWrong : ChangeSpec := { name := "fnExactExactly", fn := fun _ => fun
  | [d1, d2] => { results := [.lit (.bool false)], args := [d1, d2] }
  | _ => none }
def FnExactExactlyWrongFalsely : Prop := fnExactExactlyRow.holds Try.pinned (OpenSpec.ofChange fnExactExactlyWrong)

/-- 'laws.FnExactParity': WHATEVER THE INPUT: true; the input reads as it did. -/
def fnExactParitySpec : ChangeSpec := { name := "fnExactParity", fn := fun _ => fun
  | [d1, d2] => { results := [.lit (.bool true)], args := [d1, d2] }
  | _ => none }
def fnExactParityRow : OpenClaim := { program := "ytmmfhcfanbfniaa", sum := "ab28c98b409ce28a2badc313ba9a1ca25663ca31e36d63fe1903722f194155a1", func := "loop.example/g00123/laws.FnExactParity", spec := "fnExactParity", unfollowed := true, recurses := true, apart := false }
def FnExactParitySaid : Prop := fnExactParityRow.holds Try.pinned (OpenSpec.ofChange fnExactParitySpec)

/-- ITS FALSE NEIGHBOUR: 'it returns false'. Refute it at one input. -/
def fnExactParityWrong : ChangeSpec := { name := "fnExactParity", fn := fun _ => fun
  | [d1, d2] => { results := [.lit (.bool false)], args := [d1, d2] }
  | _ => none }
def FnExactParityWrongFalsely : Prop := fnExactParityRow.holds Try.pinned (OpenSpec.ofChange fnExactParityWrong)

/-- 'laws.FnExactPigeon': WHATEVER THE INPUT: true; the input reads as it did. -/
def fnExactPigeonSpec : ChangeSpec := { name := "fnExactPigeon", fn := fun _ => fun
  | [d] => { results := [.lit (.bool true)], args := [d] }
  | _ => none }
def fnExactPigeonRow : OpenClaim := { program := "ytmmfhcfanbfniaa", sum := "ab28c98b409ce28a2badc313ba9a1ca25663ca31e36d63fe1903722f194155a1", func := "loop.example/g00123/laws.FnExactPigeon", spec := "fnExactPigeon", unfollowed := true, recurses := true, apart := false }
def FnExactPigeonSaid : Prop := fnExactPigeonRow.holds Try.pinned (OpenSpec.ofChange fnExactPigeonSpec)

/-- ITS FALSE NEIGHBOUR: 'it returns false'. Refute it at one input. -/
def fnExactPigeonWrong : ChangeSpec := { name := "fnExactPigeon", fn := fun _ => fun
  | [d] => { results := [.lit (.bool false)], args := [d] }
  | _ => none }
def FnExactPigeonWrongFalsely : Prop := fnExactPigeonRow.holds Try.pinned (OpenSpec.ofChange fnExactPigeonWrong)

/-- 'laws.FnExactColor': WHATEVER THE INPUT: true; the input reads as it did. -/
def fnExactColorSpec : ChangeSpec := { name := "fnExactColor", fn := fun _ => fun
  | [d1, d2, d3] => { results := [.lit (.bool true)], args := [d1, d2, d3] }
  | _ => none }
def fnExactColorRow : OpenClaim := { program := "ytmmfhcfanbfniaa", sum := "ab28c98b409ce28a2badc313ba9a1ca25663ca31e36d63fe1903722f194155a1", func := "loop.example/g00123/laws.FnExactColor", spec := "fnExactColor", unfollowed := true, recurses := true, apart := false }
def FnExactColorSaid : Prop := fnExactColorRow.holds Try.pinned (OpenSpec.ofChange fnExactColorSpec)

/-- ITS FALSE NEIGHBOUR: 'it returns false'. Refute it at one input. -/
def fnExactColorWrong : ChangeSpec := { name := "fnExactColor", fn := fun _ => fun
  | [d1, d2, d3] => { results := [.lit (.bool false)], args := [d1, d2, d3] }
  | _ => none }
def FnExactColorWrongFalsely : Prop := fnExactColorRow.holds Try.pinned (OpenSpec.ofChange fnExactColorWrong)

/- THE SECOND FORM. 'bulk': how many values and letters a reading holds, each counted each time it is reached (what is shared counts as often as it is met; a slice's spare places count too). A statement '..UptoSaid' is the law's where the arguments, and the package variables that the reading takes, are together of bulk at most 1048576: NARROWER than '..Said'. Prove '..Said' where nothing that the law and all that it calls make is longer than what came in: it says more and counts as full. Else prove '..UptoSaid'. A law counts once. -/
mutual
def uptoBulk {H : Type} : DataW H → Nat
  | .lit (.string bytes) => bytes.length + 1
  | .lit _ => 1
  | .nil => 1
  | .ptr d => uptoBulk d + 1
  | .slice elems spare => uptoBulkAll elems + uptoBulkAll spare + 1
  | .agg parts => uptoBulkAll parts + 1
  | .iface _ d => uptoBulk d + 1
  | .map entries => uptoBulkEntries entries + 1
  | .held _ => 1
def uptoBulkAll {H : Type} : List (DataW H) → Nat
  | [] => 0
  | d :: r => uptoBulk d + uptoBulkAll r
def uptoBulkEntries {H : Type} : List (Lit × DataW H) → Nat
  | [] => 0
  | x :: r => uptoBulkEntry x + uptoBulkEntries r
def uptoBulkEntry {H : Type} : Lit × DataW H → Nat
  | (.string bytes, d) => bytes.length + uptoBulk d + 1
  | (_, d) => uptoBulk d + 1
 end
def uptoSmall : (H : Type) → List (DataW H) → Bool := fun _ ds => decide (uptoBulkAll ds ≤ 1048576)
def OpenSpec.upto (s : _root_.Go.ChangeSpec) : _root_.Go.OpenSpec := { _root_.Go.OpenSpec.ofChange s with cond := some uptoSmall }

/-- 'laws.FnAtMost', WHERE WHAT IT READS IS OF BULK AT MOST 1048576: true; the input reads as it did. -/
def fnAtMostUptoRow : OpenClaim := { program := "ytmmfhcfanbfniaa", sum := "ab28c98b409ce28a2badc313ba9a1ca25663ca31e36d63fe1903722f194155a1", func := "loop.example/g00123/laws.FnAtMost", spec := "fnAtMost", unfollowed := true, recurses := true, apart := false, narrowed := true }
def FnAtMostUptoSaid : Prop := fnAtMostUptoRow.holds Try.pinned (OpenSpec.upto fnAtMostSpec)

/-- 'laws.FnParity', WHERE WHAT IT READS IS OF BULK AT MOST 1048576: true; the input reads as it did. -/
def fnParityUptoRow : OpenClaim := { program := "ytmmfhcfanbfniaa", sum := "ab28c98b409ce28a2badc313ba9a1ca25663ca31e36d63fe1903722f194155a1", func := "loop.example/g00123/laws.FnParity", spec := "fnParity", unfollowed := true, recurses := true, apart := false, narrowed := true }
def FnParityUptoSaid : Prop := fnParityUptoRow.holds Try.pinned (OpenSpec.upto fnParitySpec)

/-- 'laws.FnGates', WHERE WHAT IT READS IS OF BULK AT MOST 1048576: true; the input reads as it did. -/
def fnGatesUptoRow : OpenClaim := { program := "ytmmfhcfanbfniaa", sum := "ab28c98b409ce28a2badc313ba9a1ca25663ca31e36d63fe1903722f194155a1", func := "loop.example/g00123/laws.FnGates", spec := "fnGates", unfollowed := true, recurses := true, apart := false, narrowed := true }
def FnGatesUptoSaid : Prop := fnGatesUptoRow.holds Try.pinned (OpenSpec.upto fnGatesSpec)

/-- 'laws.FnExactAtMost', WHERE WHAT IT READS IS OF BULK AT MOST 1048576: true; the input reads as it did. -/
def fnExactAtMostUptoRow : OpenClaim := { program := "ytmmfhcfanbfniaa", sum := "ab28c98b409ce28a2badc313ba9a1ca25663ca31e36d63fe1903722f194155a1", func := "loop.example/g00123/laws.FnExactAtMost", spec := "fnExactAtMost", unfollowed := true, recurses := true, apart := false, narrowed := true }
def FnExactAtMostUptoSaid : Prop := fnExactAtMostUptoRow.holds Try.pinned (OpenSpec.upto fnExactAtMostSpec)

/-- 'laws.FnExactAtLeast', WHERE WHAT IT READS IS OF BULK AT MOST 1048576: true; the input reads as it did. -/
def fnExactAtLeastUptoRow : OpenClaim := { program := "ytmmfhcfanbfniaa", sum := "ab28c98b409ce28a2badc313ba9a1ca25663ca31e36d63fe1903722f194155a1", func := "loop.example/g00123/laws.FnExactAtLeast", spec := "fnExactAtLeast", unfollowed := true, recurses := true, apart := false, narrowed := true }
def FnExactAtLeastUptoSaid : Prop := fnExactAtLeastUptoRow.holds Try.pinned (OpenSpec.upto fnExactAtLeastSpec)

/-- 'laws.FnExactExactly', WHERE WHAT IT READS IS OF BULK AT MOST 1048576: true; the input reads as it did. -/
def fnExactExactlyUptoRow : OpenClaim := { program := "ytmmfhcfanbfniaa", sum := "ab28c98b409ce28a2badc313ba9a1ca25663ca31e36d63fe1903722f194155a1", func := "loop.example/g00123/laws.FnExactExactly", spec := "fnExactExactly", unfollowed := true, recurses := true, apart := false, narrowed := true }
def FnExactExactlyUptoSaid : Prop := fnExactExactlyUptoRow.holds Try.pinned (OpenSpec.upto fnExactExactlySpec)

/-- 'laws.FnExactParity', WHERE WHAT IT READS IS OF BULK AT MOST 1048576: true; the input reads as it did. -/
def fnExactParityUptoRow : OpenClaim := { program := "ytmmfhcfanbfniaa", sum := "ab28c98b409ce28a2badc313ba9a1ca25663ca31e36d63fe1903722f194155a1", func := "loop.example/g00123/laws.FnExactParity", spec := "fnExactParity", unfollowed := true, recurses := true, apart := false, narrowed := true }
def FnExactParityUptoSaid : Prop := fnExactParityUptoRow.holds Try.pinned (OpenSpec.upto fnExactParitySpec)

/-- 'laws.FnExactPigeon', WHERE WHAT IT READS IS OF BULK AT MOST 1048576: true; the input reads as it did. -/
def fnExactPigeonUptoRow : OpenClaim := { program := "ytmmfhcfanbfniaa", sum := "ab28c98b409ce28a2badc313ba9a1ca25663ca31e36d63fe1903722f194155a1", func := "loop.example/g00123/laws.FnExactPigeon", spec := "fnExactPigeon", unfollowed := true, recurses := true, apart := false, narrowed := true }
def FnExactPigeonUptoSaid : Prop := fnExactPigeonUptoRow.holds Try.pinned (OpenSpec.upto fnExactPigeonSpec)

/-- 'laws.FnExactColor', WHERE WHAT IT READS IS OF BULK AT MOST 1048576: true; the input reads as it did. -/
def fnExactColorUptoRow : OpenClaim := { program := "ytmmfhcfanbfniaa", sum := "ab28c98b409ce28a2badc313ba9a1ca25663ca31e36d63fe1903722f194155a1", func := "loop.example/g00123/laws.FnExactColor", spec := "fnExactColor", unfollowed := true, recurses := true, apart := false, narrowed := true }
def FnExactColorUptoSaid : Prop := fnExactColorUptoRow.holds Try.pinned (OpenSpec.upto fnExactColorSpec)

end Rows
end Go.Proofs.Ytmmfhcfanbfniaa
