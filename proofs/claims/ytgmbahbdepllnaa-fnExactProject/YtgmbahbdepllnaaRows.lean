/-
  No cell of these rows narrows 'for every input' (looked for: loops, veiled, ifaces, maps, wideKeys, modest, calm, conditions, laid).
  DERIVED. THE GIVEN ROWS OF THIS SEAT. 8 by the template 'for every input the law returns true; each argument reads behind the call as it read before'; 0 by the template 'total and deterministic' (their statements: YtgmbahbdepllnaaTotals.lean).
  GIVEN WITH THE SEED: the statements are not yours to turn. If you find one false, say at which input.
  Laid BY PROGRAM, IN A SANDBOX (cutbox-rows.mjs): the forced cells as the released guide's own fill.sh prints them over the translation 613f444fcc6997af… (all of the seat's roots in one cut). By AI agents, Wed Nov 11 2026. No macro, syntax, notation, axiom, sorry.
-/
import Derived.Test.YtgmbahbdepllnaaChecked
import GoSem.Claim
import GoSem.ClaimJoined
import GoSem.ClaimMapViews
import Derived.JoinedTies
import Derived.KernelRfl
namespace Go.Proofs.Ytgmbahbdepllnaa
/- THE CELL 'sum', in the pinned program and in every row, IS THE sha256 OF THE DUMP (.gsa) THAT YtgmbahbdepllnaaProg.lean LOADS. Nothing in Lean hashes anything: it is a label: what it is worth is what the hold of that sum in a sandbox is worth. -/
noncomputable def Try.pinned : Pinned := { name := "ytgmbahbdepllnaa", sum := "613f444fcc6997affc08c1df01c0dc7ac6fe99c26d4bc9975453d33064669bfb", checked := Try.checked }
namespace Rows
def none {H : Type} : Left H := { results := [], args := [] }

/-- 'laws.FnTurn': WHATEVER THE INPUT: true; the input reads as it did. -/
def fnTurnSpec : ChangeSpec := { name := "fnTurn", fn := fun _ => fun
  | [d] => { results := [.lit (.bool true)], args := [d] }
  | _ => none }
def fnTurnRow : OpenClaim := { program := "ytgmbahbdepllnaa", sum := "613f444fcc6997affc08c1df01c0dc7ac6fe99c26d4bc9975453d33064669bfb", func := "loop.example/g00123/laws.FnTurn", spec := "fnTurn", apart := false }
def FnTurnSaid : Prop := fnTurnRow.holds Try.pinned (OpenSpec.ofChange fnTurnSpec)

/-- ITS FALSE NEIGHBOUR: 'it returns false'. Refute it at one input. -/
def fnTurnWrong : ChangeSpec := { name := "fnTurn", fn := fun _ => fun
  | [d] => { results := [.lit (.bool false)], args := [d] }
  | _ => none }
def FnTurnWrongFalsely : Prop := fnTurnRow.holds Try.pinned (OpenSpec.ofChange fnTurnWrong)

/-- 'laws.FnExactPart': WHATEVER THE INPUT: true; the input reads as it did. -/
def fnExactPartSpec : ChangeSpec := { name := "fnExactPart", fn := fun _ => fun
  | [d1, d2] => { results := [.lit (.bool true)], args := [d1, d2] }
  | _ => none }
def fnExactPartRow : OpenClaim := { program := "ytgmbahbdepllnaa", sum := "613f444fcc6997affc08c1df01c0dc7ac6fe99c26d4bc9975453d33064669bfb", func := "loop.example/g00123/laws.FnExactPart", spec := "fnExactPart", unfollowed := true, recurses := true, apart := false }
def FnExactPartSaid : Prop := fnExactPartRow.holds Try.pinned (OpenSpec.ofChange fnExactPartSpec)

/-- ITS FALSE NEIGHBOUR: 'it returns false'. Refute it at one input. -/
def fnExactPartWrong : ChangeSpec := { name := "fnExactPart", fn := fun _ => fun
  | [d1, d2] => { results := [.lit (.bool false)], args := [d1, d2] }
  | _ => none }
def FnExactPartWrongFalsely : Prop := fnExactPartRow.holds Try.pinned (OpenSpec.ofChange fnExactPartWrong)

/-- 'laws.FnExactFlipVar': WHATEVER THE INPUT: true; the input reads as it did. -/
def fnExactFlipVarSpec : ChangeSpec := { name := "fnExactFlipVar", fn := fun _ => fun
  | [d1, d2] => { results := [.lit (.bool true)], args := [d1, d2] }
  | _ => none }
def fnExactFlipVarRow : OpenClaim := { program := "ytgmbahbdepllnaa", sum := "613f444fcc6997affc08c1df01c0dc7ac6fe99c26d4bc9975453d33064669bfb", func := "loop.example/g00123/laws.FnExactFlipVar", spec := "fnExactFlipVar", apart := false }
def FnExactFlipVarSaid : Prop := fnExactFlipVarRow.holds Try.pinned (OpenSpec.ofChange fnExactFlipVarSpec)

/-- ITS FALSE NEIGHBOUR: 'it returns false'. Refute it at one input. -/
def fnExactFlipVarWrong : ChangeSpec := { name := "fnExactFlipVar", fn := fun _ => fun
  | [d1, d2] => { results := [.lit (.bool false)], args := [d1, d2] }
  | _ => none }
def FnExactFlipVarWrongFalsely : Prop := fnExactFlipVarRow.holds Try.pinned (OpenSpec.ofChange fnExactFlipVarWrong)

/-- 'laws.FnExactSwapVars': WHATEVER THE INPUT: true; the input reads as it did. -/
def fnExactSwapVarsSpec : ChangeSpec := { name := "fnExactSwapVars", fn := fun _ => fun
  | [d1, d2, d3] => { results := [.lit (.bool true)], args := [d1, d2, d3] }
  | _ => none }
def fnExactSwapVarsRow : OpenClaim := { program := "ytgmbahbdepllnaa", sum := "613f444fcc6997affc08c1df01c0dc7ac6fe99c26d4bc9975453d33064669bfb", func := "loop.example/g00123/laws.FnExactSwapVars", spec := "fnExactSwapVars", apart := false }
def FnExactSwapVarsSaid : Prop := fnExactSwapVarsRow.holds Try.pinned (OpenSpec.ofChange fnExactSwapVarsSpec)

/-- ITS FALSE NEIGHBOUR: 'it returns false'. Refute it at one input. -/
def fnExactSwapVarsWrong : ChangeSpec := { name := "fnExactSwapVars", fn := fun _ => fun
  | [d1, d2, d3] => { results := [.lit (.bool false)], args := [d1, d2, d3] }
  | _ => none }
def FnExactSwapVarsWrongFalsely : Prop := fnExactSwapVarsRow.holds Try.pinned (OpenSpec.ofChange fnExactSwapVarsWrong)

/-- 'laws.FnExactProject': WHATEVER THE INPUT: true; the input reads as it did. -/
def fnExactProjectSpec : ChangeSpec := { name := "fnExactProject", fn := fun _ => fun
  | [d1, d2] => { results := [.lit (.bool true)], args := [d1, d2] }
  | _ => none }
def fnExactProjectRow : OpenClaim := { program := "ytgmbahbdepllnaa", sum := "613f444fcc6997affc08c1df01c0dc7ac6fe99c26d4bc9975453d33064669bfb", func := "loop.example/g00123/laws.FnExactProject", spec := "fnExactProject", unfollowed := true, recurses := true, apart := false }
def FnExactProjectSaid : Prop := fnExactProjectRow.holds Try.pinned (OpenSpec.ofChange fnExactProjectSpec)

/-- ITS FALSE NEIGHBOUR: 'it returns false'. Refute it at one input. -/
def fnExactProjectWrong : ChangeSpec := { name := "fnExactProject", fn := fun _ => fun
  | [d1, d2] => { results := [.lit (.bool false)], args := [d1, d2] }
  | _ => none }
def FnExactProjectWrongFalsely : Prop := fnExactProjectRow.holds Try.pinned (OpenSpec.ofChange fnExactProjectWrong)

/-- 'laws.FnExactHorn': WHATEVER THE INPUT: true; the input reads as it did. -/
def fnExactHornSpec : ChangeSpec := { name := "fnExactHorn", fn := fun _ => fun
  | [d] => { results := [.lit (.bool true)], args := [d] }
  | _ => none }
def fnExactHornRow : OpenClaim := { program := "ytgmbahbdepllnaa", sum := "613f444fcc6997affc08c1df01c0dc7ac6fe99c26d4bc9975453d33064669bfb", func := "loop.example/g00123/laws.FnExactHorn", spec := "fnExactHorn", unfollowed := true, recurses := true, apart := false }
def FnExactHornSaid : Prop := fnExactHornRow.holds Try.pinned (OpenSpec.ofChange fnExactHornSpec)

/-- ITS FALSE NEIGHBOUR: 'it returns false'. Refute it at one input. -/
def fnExactHornWrong : ChangeSpec := { name := "fnExactHorn", fn := fun _ => fun
  | [d] => { results := [.lit (.bool false)], args := [d] }
  | _ => none }
def FnExactHornWrongFalsely : Prop := fnExactHornRow.holds Try.pinned (OpenSpec.ofChange fnExactHornWrong)

/-- 'laws.FnExactOccurs': WHATEVER THE INPUT: true; the input reads as it did. -/
def fnExactOccursSpec : ChangeSpec := { name := "fnExactOccurs", fn := fun _ => fun
  | [d1, d2] => { results := [.lit (.bool true)], args := [d1, d2] }
  | _ => none }
def fnExactOccursRow : OpenClaim := { program := "ytgmbahbdepllnaa", sum := "613f444fcc6997affc08c1df01c0dc7ac6fe99c26d4bc9975453d33064669bfb", func := "loop.example/g00123/laws.FnExactOccurs", spec := "fnExactOccurs", unfollowed := true, recurses := true, apart := false }
def FnExactOccursSaid : Prop := fnExactOccursRow.holds Try.pinned (OpenSpec.ofChange fnExactOccursSpec)

/-- ITS FALSE NEIGHBOUR: 'it returns false'. Refute it at one input. -/
def fnExactOccursWrong : ChangeSpec := { name := "fnExactOccurs", fn := fun _ => fun
  | [d1, d2] => { results := [.lit (.bool false)], args := [d1, d2] }
  | _ => none }
def FnExactOccursWrongFalsely : Prop := fnExactOccursRow.holds Try.pinned (OpenSpec.ofChange fnExactOccursWrong)

/-- 'laws.FnExactWidth': WHATEVER THE INPUT: true; the input reads as it did. -/
def fnExactWidthSpec : ChangeSpec := { name := "fnExactWidth", fn := fun _ => fun
  | [d] => { results := [.lit (.bool true)], args := [d] }
  | _ => none }
def fnExactWidthRow : OpenClaim := { program := "ytgmbahbdepllnaa", sum := "613f444fcc6997affc08c1df01c0dc7ac6fe99c26d4bc9975453d33064669bfb", func := "loop.example/g00123/laws.FnExactWidth", spec := "fnExactWidth", apart := false }
def FnExactWidthSaid : Prop := fnExactWidthRow.holds Try.pinned (OpenSpec.ofChange fnExactWidthSpec)

/-- ITS FALSE NEIGHBOUR: 'it returns false'. Refute it at one input. -/
def fnExactWidthWrong : ChangeSpec := { name := "fnExactWidth", fn := fun _ => fun
  | [d] => { results := [.lit (.bool false)], args := [d] }
  | _ => none }
def FnExactWidthWrongFalsely : Prop := fnExactWidthRow.holds Try.pinned (OpenSpec.ofChange fnExactWidthWrong)

/- THE SECOND FORM. 'bulk': how many values and letters a reading holds, each counted each time it is reached (what is shared counts as often as it is met; a slice's spare places count too). A statement '..UptoSaid' is the law's where the arguments, and the package variables that the reading takes, are together of bulk at most 1048576: NARROWER than '..Said'. Prove '..Said' where nothing that the law and all that it calls make is longer than what came in: it says more and counts as full. Else prove '..UptoSaid'. A law counts once. -/
mutual
def uptoBulk {H : Type} : DataW H → Nat
  | .lit (.string bytes) => bytes.length + 1
  | .lit _ => 1
  | .nil => 1
  | .ptr d => uptoBulk d + 1
  | .slice elems spare => uptoBulkAll elems + uptoBulkAll spare + 1
  | .agg parts => uptoBulkAll parts + 1
  | .iface _ d => uptoBulk d + 1
  | .map entries => uptoBulkEntries entries + 1
  | .held _ => 1
def uptoBulkAll {H : Type} : List (DataW H) → Nat
  | [] => 0
  | d :: r => uptoBulk d + uptoBulkAll r
def uptoBulkEntries {H : Type} : List (Lit × DataW H) → Nat
  | [] => 0
  | x :: r => uptoBulkEntry x + uptoBulkEntries r
def uptoBulkEntry {H : Type} : Lit × DataW H → Nat
  | (.string bytes, d) => bytes.length + uptoBulk d + 1
  | (_, d) => uptoBulk d + 1
 end
def uptoSmall : (H : Type) → List (DataW H) → Bool := fun _ ds => decide (uptoBulkAll ds ≤ 1048576)
def OpenSpec.upto (s : _root_.Go.ChangeSpec) : _root_.Go.OpenSpec := { _root_.Go.OpenSpec.ofChange s with cond := some uptoSmall }

/-- 'laws.FnTurn', WHERE WHAT IT READS IS OF BULK AT MOST 1048576: true; the input reads as it did. -/
def fnTurnUptoRow : OpenClaim := { program := "ytgmbahbdepllnaa", sum := "613f444fcc6997affc08c1df01c0dc7ac6fe99c26d4bc9975453d33064669bfb", func := "loop.example/g00123/laws.FnTurn", spec := "fnTurn", apart := false, narrowed := true }
def FnTurnUptoSaid : Prop := fnTurnUptoRow.holds Try.pinned (OpenSpec.upto fnTurnSpec)

/-- 'laws.FnExactPart', WHERE WHAT IT READS IS OF BULK AT MOST 1048576: true; the input reads as it did. -/
def fnExactPartUptoRow : OpenClaim := { program := "ytgmbahbdepllnaa", sum := "613f444fcc6997affc08c1df01c0dc7ac6fe99c26d4bc9975453d33064669bfb", func := "loop.example/g00123/laws.FnExactPart", spec := "fnExactPart", unfollowed := true, recurses := true, apart := false, narrowed := true }
def FnExactPartUptoSaid : Prop := fnExactPartUptoRow.holds Try.pinned (OpenSpec.upto fnExactPartSpec)

/-- 'laws.FnExactFlipVar', WHERE WHAT IT READS IS OF BULK AT MOST 1048576: true; the input reads as it did. -/
def fnExactFlipVarUptoRow : OpenClaim := { program := "ytgmbahbdepllnaa", sum := "613f444fcc6997affc08c1df01c0dc7ac6fe99c26d4bc9975453d33064669bfb", func := "loop.example/g00123/laws.FnExactFlipVar", spec := "fnExactFlipVar", apart := false, narrowed := true }
def FnExactFlipVarUptoSaid : Prop := fnExactFlipVarUptoRow.holds Try.pinned (OpenSpec.upto fnExactFlipVarSpec)

/-- 'laws.FnExactSwapVars', WHERE WHAT IT READS IS OF BULK AT MOST 1048576: true; the input reads as it did. -/
def fnExactSwapVarsUptoRow : OpenClaim := { program := "ytgmbahbdepllnaa", sum := "613f444fcc6997affc08c1df01c0dc7ac6fe99c26d4bc9975453d33064669bfb", func := "loop.example/g00123/laws.FnExactSwapVars", spec := "fnExactSwapVars", apart := false, narrowed := true }
def FnExactSwapVarsUptoSaid : Prop := fnExactSwapVarsUptoRow.holds Try.pinned (OpenSpec.upto fnExactSwapVarsSpec)

/-- 'laws.FnExactProject', WHERE WHAT IT READS IS OF BULK AT MOST 1048576: true; the input reads as it did. -/
def fnExactProjectUptoRow : OpenClaim := { program := "ytgmbahbdepllnaa", sum := "613f444fcc6997affc08c1df01c0dc7ac6fe99c26d4bc9975453d33064669bfb", func := "loop.example/g00123/laws.FnExactProject", spec := "fnExactProject", unfollowed := true, recurses := true, apart := false, narrowed := true }
def FnExactProjectUptoSaid : Prop := fnExactProjectUptoRow.holds Try.pinned (OpenSpec.upto fnExactProjectSpec)

/-- 'laws.FnExactHorn', WHERE WHAT IT READS IS OF BULK AT MOST 1048576: true; the input reads as it did. -/
def fnExactHornUptoRow : OpenClaim := { program := "ytgmbahbdepllnaa", sum := "613f444fcc6997affc08c1df01c0dc7ac6fe99c26d4bc9975453d33064669bfb", func := "loop.example/g00123/laws.FnExactHorn", spec := "fnExactHorn", unfollowed := true, recurses := true, apart := false, narrowed := true }
def FnExactHornUptoSaid : Prop := fnExactHornUptoRow.holds Try.pinned (OpenSpec.upto fnExactHornSpec)

/-- 'laws.FnExactOccurs', WHERE WHAT IT READS IS OF BULK AT MOST 1048576: true; the input reads as it did. -/
def fnExactOccursUptoRow : OpenClaim := { program := "ytgmbahbdepllnaa", sum := "613f444fcc6997affc08c1df01c0dc7ac6fe99c26d4bc9975453d33064669bfb", func := "loop.example/g00123/laws.FnExactOccurs", spec := "fnExactOccurs", unfollowed := true, recurses := true, apart := false, narrowed := true }
def FnExactOccursUptoSaid : Prop := fnExactOccursUptoRow.holds Try.pinned (OpenSpec.upto fnExactOccursSpec)

/-- 'laws.FnExactWidth', WHERE WHAT IT READS IS OF BULK AT MOST 1048576: true; the input reads as it did. -/
def fnExactWidthUptoRow : OpenClaim := { program := "ytgmbahbdepllnaa", sum := "613f444fcc6997affc08c1df01c0dc7ac6fe99c26d4bc9975453d33064669bfb", func := "loop.example/g00123/laws.FnExactWidth", spec := "fnExactWidth", apart := false, narrowed := true }
def FnExactWidthUptoSaid : Prop := fnExactWidthUptoRow.holds Try.pinned (OpenSpec.upto fnExactWidthSpec)

end Rows
end Go.Proofs.Ytgmbahbdepllnaa
