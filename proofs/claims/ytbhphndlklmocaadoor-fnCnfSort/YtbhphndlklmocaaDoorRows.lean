/-
  NARROWER THAN 'FOR EVERY INPUT', by the rows' own cells (each row's printed sentence says how): FnCnfSort: laid · FnForce: laid · FnLeaves: laid · FnExactCnfSort: laid · FnExactUnit: laid · FnExactForce: laid · FnExactLeaves: laid.
  DERIVED. THE GIVEN ROWS OF THIS SEAT. 7 by the template 'for every input the law returns true; each argument reads behind the call as it read before'; 0 by the template 'total and deterministic' (their statements: YtbhphndlklmocaaDoorTotals.lean).
  GIVEN WITH THE SEED: the statements are not yours to turn. If you find one false, say at which input.
  Laid BY PROGRAM, IN A SANDBOX (cutbox-rows.mjs): the forced cells as the released guide's own fill.sh prints them over the translation 261e8a7579d2a819… (all of the seat's roots in one cut). By AI agents, Wed Nov 11 2026. No macro, syntax, notation, axiom, sorry.
-/
import Derived.Test.YtbhphndlklmocaaDoorChecked
import GoSem.Claim
import GoSem.ClaimJoined
import GoSem.ClaimMapViews
import Derived.JoinedTies
import Derived.KernelRfl
namespace Go.Proofs.YtbhphndlklmocaaDoor
/- THE CELL 'sum', in the pinned program and in every row, IS THE sha256 OF THE DUMP (.gsa) THAT YtbhphndlklmocaaDoorProg.lean LOADS. Nothing in Lean hashes anything: it is a label: what it is worth is what the hold of that sum in a sandbox is worth. -/
noncomputable def Tryd.pinned : Pinned := { name := "ytbhphndlklmocaadoor", sum := "261e8a7579d2a81931bb21d0233d9e852beccb1e7552858cca0251171f34bea9", checked := Tryd.checked }
namespace Rows
def none {H : Type} : Left H := { results := [], args := [] }

/- WHAT THE LISTED PACKAGE-LEVEL VARIABLES READ AS WHEN THE CALL BEGINS. Each datum BY PROGRAM (the guide's laid-datum.mjs) off the statement by which the dump's own 'gosem.cut.vars' lays the variable. In a bare row this is a premise. The card (YtbhphndlklmocaaDoorCards.lean) ties it to the program's text. -/
def laid_math_bits_deBruijn64tab {H : Type} : DataW H := .agg [.lit (.int .u8 0), .lit (.int .u8 1), .lit (.int .u8 56), .lit (.int .u8 2), .lit (.int .u8 57), .lit (.int .u8 49), .lit (.int .u8 28), .lit (.int .u8 3), .lit (.int .u8 61), .lit (.int .u8 58), .lit (.int .u8 42), .lit (.int .u8 50), .lit (.int .u8 38), .lit (.int .u8 29), .lit (.int .u8 17), .lit (.int .u8 4), .lit (.int .u8 62), .lit (.int .u8 47), .lit (.int .u8 59), .lit (.int .u8 36), .lit (.int .u8 45), .lit (.int .u8 43), .lit (.int .u8 51), .lit (.int .u8 22), .lit (.int .u8 53), .lit (.int .u8 39), .lit (.int .u8 33), .lit (.int .u8 30), .lit (.int .u8 24), .lit (.int .u8 18), .lit (.int .u8 12), .lit (.int .u8 5), .lit (.int .u8 63), .lit (.int .u8 55), .lit (.int .u8 48), .lit (.int .u8 27), .lit (.int .u8 60), .lit (.int .u8 41), .lit (.int .u8 37), .lit (.int .u8 16), .lit (.int .u8 46), .lit (.int .u8 35), .lit (.int .u8 44), .lit (.int .u8 21), .lit (.int .u8 52), .lit (.int .u8 32), .lit (.int .u8 23), .lit (.int .u8 11), .lit (.int .u8 54), .lit (.int .u8 26), .lit (.int .u8 40), .lit (.int .u8 15), .lit (.int .u8 34), .lit (.int .u8 20), .lit (.int .u8 31), .lit (.int .u8 10), .lit (.int .u8 25), .lit (.int .u8 14), .lit (.int .u8 19), .lit (.int .u8 9), .lit (.int .u8 13), .lit (.int .u8 8), .lit (.int .u8 7), .lit (.int .u8 6)]

/-- 'laws.FnCnfSort': WHATEVER THE INPUT: true; the input reads as it did. -/
def fnCnfSortSpec : ChangeSpec := { name := "fnCnfSort", fn := fun _ => fun
  | [d] => { results := [.lit (.bool true)], args := [d] }
  | _ => none }
def fnCnfSortRow : OpenClaim := { program := "ytbhphndlklmocaadoor", sum := "261e8a7579d2a81931bb21d0233d9e852beccb1e7552858cca0251171f34bea9", func := "loop.example/g00123/laws.FnCnfSort", spec := "fnCnfSort", unfollowed := true, recurses := true, named := ["math/bits.deBruijn64tab"], plainKeys := false, apart := false, laid := [("math/bits.deBruijn64tab", laid_math_bits_deBruijn64tab)] }
def FnCnfSortSaid : Prop := fnCnfSortRow.holds Tryd.pinned (OpenSpec.ofChange fnCnfSortSpec)

/-- ITS FALSE NEIGHBOUR: 'it returns false'. Refute it at one input. -/
def fnCnfSortWrong : ChangeSpec := { name := "fnCnfSort", fn := fun _ => fun
  | [d] => { results := [.lit (.bool false)], args := [d] }
  | _ => none }
def FnCnfSortWrongFalsely : Prop := fnCnfSortRow.holds Tryd.pinned (OpenSpec.ofChange fnCnfSortWrong)

/-- 'laws.FnForce': WHATEVER THE INPUT: true; the input reads as it did. -/
def fnForceSpec : ChangeSpec := { name := "fnForce", fn := fun _ => fun
  | [d] => { results := [.lit (.bool true)], args := [d] }
  | _ => none }
def fnForceRow : OpenClaim := { program := "ytbhphndlklmocaadoor", sum := "261e8a7579d2a81931bb21d0233d9e852beccb1e7552858cca0251171f34bea9", func := "loop.example/g00123/laws.FnForce", spec := "fnForce", named := ["math/bits.deBruijn64tab"], plainKeys := false, apart := false, laid := [("math/bits.deBruijn64tab", laid_math_bits_deBruijn64tab)] }
def FnForceSaid : Prop := fnForceRow.holds Tryd.pinned (OpenSpec.ofChange fnForceSpec)

/-- ITS FALSE NEIGHBOUR: 'it returns false'. Refute it at one input. -/
def fnForceWrong : ChangeSpec := { name := "fnForce", fn := fun _ => fun
  | [d] => { results := [.lit (.bool false)], args := [d] }
  | _ => none }
def FnForceWrongFalsely : Prop := fnForceRow.holds Tryd.pinned (OpenSpec.ofChange fnForceWrong)

/-- 'laws.FnLeaves': WHATEVER THE INPUT: true; the input reads as it did. -/
def fnLeavesSpec : ChangeSpec := { name := "fnLeaves", fn := fun _ => fun
  | [d] => { results := [.lit (.bool true)], args := [d] }
  | _ => none }
def fnLeavesRow : OpenClaim := { program := "ytbhphndlklmocaadoor", sum := "261e8a7579d2a81931bb21d0233d9e852beccb1e7552858cca0251171f34bea9", func := "loop.example/g00123/laws.FnLeaves", spec := "fnLeaves", unfollowed := true, recurses := true, named := ["math/bits.deBruijn64tab"], plainKeys := false, apart := false, laid := [("math/bits.deBruijn64tab", laid_math_bits_deBruijn64tab)] }
def FnLeavesSaid : Prop := fnLeavesRow.holds Tryd.pinned (OpenSpec.ofChange fnLeavesSpec)

/-- ITS FALSE NEIGHBOUR: 'it returns false'. Refute it at one input. -/
def fnLeavesWrong : ChangeSpec := { name := "fnLeaves", fn := fun _ => fun
  | [d] => { results := [.lit (.bool false)], args := [d] }
  | _ => none }
def FnLeavesWrongFalsely : Prop := fnLeavesRow.holds Tryd.pinned (OpenSpec.ofChange fnLeavesWrong)

/-- 'laws.FnExactCnfSort': WHATEVER THE INPUT: true; the input reads as it did. -/
def fnExactCnfSortSpec : ChangeSpec := { name := "fnExactCnfSort", fn := fun _ => fun
  | [d] => { results := [.lit (.bool true)], args := [d] }
  | _ => none }
def fnExactCnfSortRow : OpenClaim := { program := "ytbhphndlklmocaadoor", sum := "261e8a7579d2a81931bb21d0233d9e852beccb1e7552858cca0251171f34bea9", func := "loop.example/g00123/laws.FnExactCnfSort", spec := "fnExactCnfSort", unfollowed := true, recurses := true, named := ["math/bits.deBruijn64tab"], plainKeys := false, apart := false, laid := [("math/bits.deBruijn64tab", laid_math_bits_deBruijn64tab)] }
def FnExactCnfSortSaid : Prop := fnExactCnfSortRow.holds Tryd.pinned (OpenSpec.ofChange fnExactCnfSortSpec)

/-- ITS FALSE NEIGHBOUR: 'it returns false'. Refute it at one input. -/
def fnExactCnfSortWrong : ChangeSpec := { name := "fnExactCnfSort", fn := fun _ => fun
  | [d] => { results := [.lit (.bool false)], args := [d] }
  | _ => none }
def FnExactCnfSortWrongFalsely : Prop := fnExactCnfSortRow.holds Tryd.pinned (OpenSpec.ofChange fnExactCnfSortWrong)

/-- 'laws.FnExactUnit': WHATEVER THE INPUT: true; the input reads as it did. -/
def fnExactUnitSpec : ChangeSpec := { name := "fnExactUnit", fn := fun _ => fun
  | [d1, d2] => { results := [.lit (.bool true)], args := [d1, d2] }
  | _ => none }
def fnExactUnitRow : OpenClaim := { program := "ytbhphndlklmocaadoor", sum := "261e8a7579d2a81931bb21d0233d9e852beccb1e7552858cca0251171f34bea9", func := "loop.example/g00123/laws.FnExactUnit", spec := "fnExactUnit", named := ["math/bits.deBruijn64tab"], plainKeys := false, apart := false, laid := [("math/bits.deBruijn64tab", laid_math_bits_deBruijn64tab)] }
def FnExactUnitSaid : Prop := fnExactUnitRow.holds Tryd.pinned (OpenSpec.ofChange fnExactUnitSpec)

/-- ITS FALSE NEIGHBOUR: 'it returns false'. Refute it at one input. -/
def fnExactUnitWrong : ChangeSpec := { name := "fnExactUnit", fn := fun _ => fun
  | [d1, d2] => { results := [.lit (.bool false)], args := [d1, d2] }
  | _ => none }
def FnExactUnitWrongFalsely : Prop := fnExactUnitRow.holds Tryd.pinned (OpenSpec.ofChange fnExactUnitWrong)

/-- 'laws.FnExactForce': WHATEVER THE INPUT: true; the input reads as it did. -/
def fnExactForceSpec : ChangeSpec := { name := "fnExactForce", fn := fun _ => fun
  | [d1, d2] => { results := [.lit (.bool true)], args := [d1, d2] }
  | _ => none }
def fnExactForceRow : OpenClaim := { program := "ytbhphndlklmocaadoor", sum := "261e8a7579d2a81931bb21d0233d9e852beccb1e7552858cca0251171f34bea9", func := "loop.example/g00123/laws.FnExactForce", spec := "fnExactForce", named := ["math/bits.deBruijn64tab"], plainKeys := false, apart := false, laid := [("math/bits.deBruijn64tab", laid_math_bits_deBruijn64tab)] }
def FnExactForceSaid : Prop := fnExactForceRow.holds Tryd.pinned (OpenSpec.ofChange fnExactForceSpec)

/-- ITS FALSE NEIGHBOUR: 'it returns false'. Refute it at one input. -/
def fnExactForceWrong : ChangeSpec := { name := "fnExactForce", fn := fun _ => fun
  | [d1, d2] => { results := [.lit (.bool false)], args := [d1, d2] }
  | _ => none }
def FnExactForceWrongFalsely : Prop := fnExactForceRow.holds Tryd.pinned (OpenSpec.ofChange fnExactForceWrong)

/-- 'laws.FnExactLeaves': WHATEVER THE INPUT: true; the input reads as it did. -/
def fnExactLeavesSpec : ChangeSpec := { name := "fnExactLeaves", fn := fun _ => fun
  | [d1, d2] => { results := [.lit (.bool true)], args := [d1, d2] }
  | _ => none }
def fnExactLeavesRow : OpenClaim := { program := "ytbhphndlklmocaadoor", sum := "261e8a7579d2a81931bb21d0233d9e852beccb1e7552858cca0251171f34bea9", func := "loop.example/g00123/laws.FnExactLeaves", spec := "fnExactLeaves", named := ["math/bits.deBruijn64tab"], plainKeys := false, apart := false, laid := [("math/bits.deBruijn64tab", laid_math_bits_deBruijn64tab)] }
def FnExactLeavesSaid : Prop := fnExactLeavesRow.holds Tryd.pinned (OpenSpec.ofChange fnExactLeavesSpec)

/-- ITS FALSE NEIGHBOUR: 'it returns false'. Refute it at one input. -/
def fnExactLeavesWrong : ChangeSpec := { name := "fnExactLeaves", fn := fun _ => fun
  | [d1, d2] => { results := [.lit (.bool false)], args := [d1, d2] }
  | _ => none }
def FnExactLeavesWrongFalsely : Prop := fnExactLeavesRow.holds Tryd.pinned (OpenSpec.ofChange fnExactLeavesWrong)

/- THE SECOND FORM. 'bulk': how many values and letters a reading holds, each counted each time it is reached (what is shared counts as often as it is met; a slice's spare places count too). A statement '..UptoSaid' is the law's where the arguments, and the package variables that the reading takes, are together of bulk at most 1048576: NARROWER than '..Said'. Prove '..Said' where nothing that the law and all that it calls make is longer than what came in: it says more and counts as full. Else prove '..UptoSaid'. A law counts once. -/
mutual
def uptoBulk {H : Type} : DataW H → Nat
  | .lit (.string bytes) => bytes.length + 1
  | .lit _ => 1
  | .nil => 1
  | .ptr d => uptoBulk d + 1
  | .slice elems spare => uptoBulkAll elems + uptoBulkAll spare + 1
  | .agg parts => uptoBulkAll parts + 1
  | .iface _ d => uptoBulk d + 1
  | .map entries => uptoBulkEntries entries + 1
  | .held _ => 1
def uptoBulkAll {H : Type} : List (DataW H) → Nat
  | [] => 0
  | d :: r => uptoBulk d + uptoBulkAll r
def uptoBulkEntries {H : Type} : List (Lit × DataW H) → Nat
  | [] => 0
  | x :: r => uptoBulkEntry x + uptoBulkEntries r
def uptoBulkEntry {H : Type} : Lit × DataW H → Nat
  | (.string bytes, d) => bytes.length + uptoBulk d + 1
  | (_, d) => uptoBulk d + 1
 end
def uptoSmall : (H : Type) → List (DataW H) → Bool := fun _ ds => decide (uptoBulkAll ds ≤ 1048576)
def OpenSpec.upto (s : _root_.Go.ChangeSpec) : _root_.Go.OpenSpec := { _root_.Go.OpenSpec.ofChange s with cond := some uptoSmall }

/-- 'laws.FnCnfSort', WHERE WHAT IT READS IS OF BULK AT MOST 1048576: true; the input reads as it did. -/
def fnCnfSortUptoRow : OpenClaim := { program := "ytbhphndlklmocaadoor", sum := "261e8a7579d2a81931bb21d0233d9e852beccb1e7552858cca0251171f34bea9", func := "loop.example/g00123/laws.FnCnfSort", spec := "fnCnfSort", unfollowed := true, recurses := true, named := ["math/bits.deBruijn64tab"], plainKeys := false, apart := false, laid := [("math/bits.deBruijn64tab", laid_math_bits_deBruijn64tab)], narrowed := true }
def FnCnfSortUptoSaid : Prop := fnCnfSortUptoRow.holds Tryd.pinned (OpenSpec.upto fnCnfSortSpec)

/-- 'laws.FnForce', WHERE WHAT IT READS IS OF BULK AT MOST 1048576: true; the input reads as it did. -/
def fnForceUptoRow : OpenClaim := { program := "ytbhphndlklmocaadoor", sum := "261e8a7579d2a81931bb21d0233d9e852beccb1e7552858cca0251171f34bea9", func := "loop.example/g00123/laws.FnForce", spec := "fnForce", named := ["math/bits.deBruijn64tab"], plainKeys := false, apart := false, laid := [("math/bits.deBruijn64tab", laid_math_bits_deBruijn64tab)], narrowed := true }
def FnForceUptoSaid : Prop := fnForceUptoRow.holds Tryd.pinned (OpenSpec.upto fnForceSpec)

/-- 'laws.FnLeaves', WHERE WHAT IT READS IS OF BULK AT MOST 1048576: true; the input reads as it did. -/
def fnLeavesUptoRow : OpenClaim := { program := "ytbhphndlklmocaadoor", sum := "261e8a7579d2a81931bb21d0233d9e852beccb1e7552858cca0251171f34bea9", func := "loop.example/g00123/laws.FnLeaves", spec := "fnLeaves", unfollowed := true, recurses := true, named := ["math/bits.deBruijn64tab"], plainKeys := false, apart := false, laid := [("math/bits.deBruijn64tab", laid_math_bits_deBruijn64tab)], narrowed := true }
def FnLeavesUptoSaid : Prop := fnLeavesUptoRow.holds Tryd.pinned (OpenSpec.upto fnLeavesSpec)

/-- 'laws.FnExactCnfSort', WHERE WHAT IT READS IS OF BULK AT MOST 1048576: true; the input reads as it did. -/
def fnExactCnfSortUptoRow : OpenClaim := { program := "ytbhphndlklmocaadoor", sum := "261e8a7579d2a81931bb21d0233d9e852beccb1e7552858cca0251171f34bea9", func := "loop.example/g00123/laws.FnExactCnfSort", spec := "fnExactCnfSort", unfollowed := true, recurses := true, named := ["math/bits.deBruijn64tab"], plainKeys := false, apart := false, laid := [("math/bits.deBruijn64tab", laid_math_bits_deBruijn64tab)], narrowed := true }
def FnExactCnfSortUptoSaid : Prop := fnExactCnfSortUptoRow.holds Tryd.pinned (OpenSpec.upto fnExactCnfSortSpec)

/-- 'laws.FnExactUnit', WHERE WHAT IT READS IS OF BULK AT MOST 1048576: true; the input reads as it did. -/
def fnExactUnitUptoRow : OpenClaim := { program := "ytbhphndlklmocaadoor", sum := "261e8a7579d2a81931bb21d0233d9e852beccb1e7552858cca0251171f34bea9", func := "loop.example/g00123/laws.FnExactUnit", spec := "fnExactUnit", named := ["math/bits.deBruijn64tab"], plainKeys := false, apart := false, laid := [("math/bits.deBruijn64tab", laid_math_bits_deBruijn64tab)], narrowed := true }
def FnExactUnitUptoSaid : Prop := fnExactUnitUptoRow.holds Tryd.pinned (OpenSpec.upto fnExactUnitSpec)

/-- 'laws.FnExactForce', WHERE WHAT IT READS IS OF BULK AT MOST 1048576: true; the input reads as it did. -/
def fnExactForceUptoRow : OpenClaim := { program := "ytbhphndlklmocaadoor", sum := "261e8a7579d2a81931bb21d0233d9e852beccb1e7552858cca0251171f34bea9", func := "loop.example/g00123/laws.FnExactForce", spec := "fnExactForce", named := ["math/bits.deBruijn64tab"], plainKeys := false, apart := false, laid := [("math/bits.deBruijn64tab", laid_math_bits_deBruijn64tab)], narrowed := true }
def FnExactForceUptoSaid : Prop := fnExactForceUptoRow.holds Tryd.pinned (OpenSpec.upto fnExactForceSpec)

/-- 'laws.FnExactLeaves', WHERE WHAT IT READS IS OF BULK AT MOST 1048576: true; the input reads as it did. -/
def fnExactLeavesUptoRow : OpenClaim := { program := "ytbhphndlklmocaadoor", sum := "261e8a7579d2a81931bb21d0233d9e852beccb1e7552858cca0251171f34bea9", func := "loop.example/g00123/laws.FnExactLeaves", spec := "fnExactLeaves", named := ["math/bits.deBruijn64tab"], plainKeys := false, apart := false, laid := [("math/bits.deBruijn64tab", laid_math_bits_deBruijn64tab)], narrowed := true }
def FnExactLeavesUptoSaid : Prop := fnExactLeavesUptoRow.holds Tryd.pinned (OpenSpec.upto fnExactLeavesSpec)

end Rows
end Go.Proofs.YtbhphndlklmocaaDoor
